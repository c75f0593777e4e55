package tests

import (
	"slices"
	"testing"

	"loop.example/g00857/impl"
)

// fold is a crease with its ends instead of their indices.
type fold struct {
	p    impl.Point
	q    impl.Point
	kind int64
}

func foldsOf(p impl.Pattern) []fold {
	var list []fold
	for _, c := range p.Creases {
		list = append(list, fold{p.Points[c.From], p.Points[c.To], c.Kind})
	}
	return list
}

func (f fold) stroke() stroke {
	return stroke{exactPointOf(f.p), exactPointOf(f.q), f.kind}
}

// isAt reports whether q is an end.
func (f fold) isAt(q impl.Point) bool { return f.p == q || f.q == q }

// byPlace is the order of points; the tests of chapter 2 compare it with an exact computation.
func byPlace(p, q impl.Point) int { return int(impl.ComparePoints(p, q)) }

// patternOf returns the pattern with some creases, whose points are their ends.
func patternOf(folds []fold) impl.Pattern {
	var p impl.Pattern
	for _, f := range folds {
		p.Points = append(p.Points, f.p, f.q)
	}
	slices.SortFunc(p.Points, byPlace)
	p.Points = slices.Compact(p.Points)
	for _, f := range folds {
		ends := []int64{int64(slices.Index(p.Points, f.p)), int64(slices.Index(p.Points, f.q))}
		p.Creases = append(p.Creases, impl.Crease{From: slices.Min(ends), To: slices.Max(ends), Kind: f.kind})
	}
	slices.SortFunc(p.Creases, func(a, b impl.Crease) int { return int((a.From-b.From)*1000 + a.To - b.To) })
	return p
}

// limitsOracle returns the pattern of some creases, or the code that it is too large or not connected.
func limitsOracle(folds []fold) (impl.Pattern, int64) {
	p := patternOf(folds)
	if len(p.Points) > impl.MaxPoints || len(p.Creases) > impl.MaxCreases {
		return impl.Pattern{}, impl.ErrFull
	}
	if componentsOracle(len(p.Points), p.Creases) != 1 {
		return impl.Pattern{}, impl.ErrState
	}
	return p, impl.OK
}

// cutOracle divides each crease that contains q inside.
func cutOracle(folds []fold, q impl.Point) []fold {
	var list []fold
	for _, f := range folds {
		if f.isAt(q) || !f.stroke().contains(exactPointOf(q)) {
			list = append(list, f)
		} else {
			list = append(list, fold{f.p, q, f.kind}, fold{q, f.q, f.kind})
		}
	}
	return list
}

// isKindOracle reports whether a kind is one of a crease that can be drawn.
func isKindOracle(kind int64) bool {
	return kind == impl.KdMountain || kind == impl.KdValley || kind == impl.KdOpen
}

// addOracle draws a segment on a valid pattern, step by step as the document describes it.
func addOracle(p impl.Pattern, a, b impl.Point, kind int64) (impl.Pattern, int64) {
	if !impl.ValidPoint(a) || !impl.ValidPoint(b) || !isKindOracle(kind) {
		return impl.Pattern{}, impl.ErrInvalid
	}
	paper := exactRing(impl.PaperOf(p))
	if directionOracle(a, b) < 0 || inOracle(paper, exactPointOf(a)) < 0 || inOracle(paper, exactPointOf(b)) < 0 {
		return impl.Pattern{}, impl.ErrGeometry
	}
	drawn, folds := fold{a, b, kind}, foldsOf(p)
	more := []impl.Point{a, b}
	for _, f := range folds {
		for _, v := range f.stroke().common(drawn.stroke()) {
			q, ok := v.valid()
			if !ok {
				return impl.Pattern{}, impl.ErrRange
			}
			more = append(more, q)
		}
	}
	for _, q := range more {
		folds = cutOracle(folds, q)
	}
	return limitsOracle(layOracle(folds, slices.Concat(p.Points, more), drawn))
}

// layOracle lays a segment over creases which are divided at all points already.
func layOracle(folds []fold, points []impl.Point, drawn fold) []fold {
	on := slices.DeleteFunc(points, func(q impl.Point) bool { return !drawn.stroke().contains(exactPointOf(q)) })
	slices.SortFunc(on, byPlace)
	on = slices.Compact(on)
	for i := range len(on) - 1 {
		same := slices.IndexFunc(folds, func(f fold) bool { return f.isAt(on[i]) && f.isAt(on[i+1]) })
		if same < 0 {
			folds = append(folds, fold{on[i], on[i+1], drawn.kind})
		} else if folds[same].kind != impl.KdBorder {
			folds[same].kind = drawn.kind
		}
	}
	return folds
}

// onLineOracle returns the points in which a line meets some segments, in ascending order. The height
// above the line is 0 at the same part of the way from one end to the other as the meeting point.
func onLineOracle(strokes []stroke, l impl.Line) []exactPoint {
	var list []exactPoint
	line := exactLineOf(l)
	for _, s := range strokes {
		from, to := line.height(s.p), line.height(s.q)
		switch {
		case from.sign()*to.sign() > 0:
		case from.isZero() && to.isZero():
			list = append(list, s.p, s.q)
		default:
			list = append(list, s.p.sum(s.way().scaled(from.quotient(from.difference(to)))))
		}
	}
	slices.SortFunc(list, compareExact)
	return slices.CompactFunc(list, exactPoint.equals)
}

func pointsOnOracle(p impl.Pattern, l impl.Line) ([]impl.Point, int64) {
	if !impl.ValidLine(l) {
		return nil, impl.ErrInvalid
	}
	var list []impl.Point
	for _, v := range onLineOracle(strokesOf(p), l) {
		q, ok := v.valid()
		if !ok {
			return nil, impl.ErrRange
		}
		list = append(list, q)
	}
	return list, impl.OK
}

// addLineOracle draws from the first point of the sides of the paper that is on the line to the last one.
func addLineOracle(p impl.Pattern, l impl.Line, kind int64) (impl.Pattern, int64) {
	if !impl.ValidLine(l) || !isKindOracle(kind) {
		return impl.Pattern{}, impl.ErrInvalid
	}
	ring := exactRing(impl.PaperOf(p))
	var sides []stroke
	var signs []int64
	for i, corner := range ring {
		sides = append(sides, stroke{p: corner, q: ring[(i+1)%len(ring)]})
		signs = append(signs, sideOracle(l, corner))
	}
	if slices.Min(signs) != -1 || slices.Max(signs) != 1 {
		return impl.Pattern{}, impl.ErrGeometry
	}
	met := onLineOracle(sides, l)
	a, aOk := met[0].valid()
	b, bOk := met[1].valid()
	if len(met) != 2 || !aOk || !bOk {
		return impl.Pattern{}, impl.ErrRange
	}
	return addOracle(p, a, b, kind)
}

func removeOracle(p impl.Pattern, k int64) (impl.Pattern, int64) {
	if k < 0 || k >= int64(len(p.Creases)) {
		return impl.Pattern{}, impl.ErrRange
	}
	if p.Creases[k].Kind == impl.KdBorder {
		return impl.Pattern{}, impl.ErrState
	}
	return limitsOracle(slices.Delete(foldsOf(p), int(k), int(k)+1))
}

func setOracle(p impl.Pattern, k, kind int64) (impl.Pattern, int64) {
	switch {
	case !isKindOracle(kind):
		return impl.Pattern{}, impl.ErrInvalid
	case k < 0 || k >= int64(len(p.Creases)):
		return impl.Pattern{}, impl.ErrRange
	case p.Creases[k].Kind == impl.KdBorder:
		return impl.Pattern{}, impl.ErrState
	}
	folds := foldsOf(p)
	folds[k].kind = kind
	return patternOf(folds), impl.OK
}

// simplifyOracle removes idle points one by one, in some order.
func simplifyOracle(p impl.Pattern, seed uint64) impl.Pattern {
	folds := foldsOf(p)
	for {
		var idle []impl.Point
		for _, q := range patternOf(folds).Points {
			if _, ok := joinOracle(folds, q); ok {
				idle = append(idle, q)
			}
		}
		if len(idle) == 0 {
			return patternOf(folds)
		}
		folds, _ = joinOracle(folds, idle[nextRandom(&seed, uint64(len(idle)))])
	}
}

// joinOracle makes one crease of the two at a point, if there are exactly two of opposite directions
// and the same kind.
func joinOracle(folds []fold, q impl.Point) ([]fold, bool) {
	var at, others []fold
	for _, f := range folds {
		switch q {
		case f.p:
			at = append(at, f)
		case f.q:
			at = append(at, fold{q, f.p, f.kind})
		default:
			others = append(others, f)
		}
	}
	if len(at) != 2 || at[0].kind != at[1].kind || (directionOracle(q, at[0].q)+8)%16 != directionOracle(q, at[1].q) {
		return nil, false
	}
	return append(others, fold{at[0].q, at[1].q, at[0].kind}), true
}

func splitOracle(p impl.Pattern, q impl.Point) (impl.Pattern, int64) {
	if !impl.ValidPoint(q) {
		return impl.Pattern{}, impl.ErrInvalid
	}
	if slices.Contains(p.Points, q) {
		return impl.Pattern{}, impl.ErrExists
	}
	folds := cutOracle(foldsOf(p), q)
	if len(folds) == len(p.Creases) {
		return impl.Pattern{}, impl.ErrNotFound
	}
	return limitsOracle(folds)
}

// placesLike returns points of a pattern, on its creases, inside of its faces, on its border and outside.
func placesLike(p impl.Pattern, state *uint64, count int) []exactPoint {
	strokes := strokesOf(p)
	var list []exactPoint
	for range count {
		s := strokes[nextRandom(state, uint64(len(strokes)))]
		other := strokes[nextRandom(state, uint64(len(strokes)))]
		places := []exactPoint{
			s.p, s.q, middleOf(s), middleOf(other),
			s.p.sum(s.way().scaled(exactParts(1, 0, 2))),
			middleOf(stroke{p: middleOf(s), q: middleOf(other)}),
			middleOf(stroke{p: s.p, q: middleOf(other)}),
			exactPointOf(randomPoint(state)),
			s.q.sum(s.way()),
		}
		list = append(list, places[nextRandom(state, uint64(len(places)))])
	}
	return list
}

// foldsLike returns segments that can be drawn, or nearly so: from places of a pattern in a direction to
// a crease, a bit beyond it or not as far, or only near the middle between both, and along creases.
func foldsLike(p impl.Pattern, seed uint64, count int) []fold {
	strokes, ring := strokesOf(p), exactRing(impl.PaperOf(p))
	var list []fold
	add := func(a, b exactPoint) {
		start, startOk := a.valid()
		end, endOk := b.valid()
		if startOk && endOk {
			list = append(list, fold{start, end, impl.KdMountain + nextRandom(&seed, 3)})
		}
	}
	for _, start := range placesLike(p, &seed, count) {
		ray, _ := rayOracle(ring, strokes, start, nextRandom(&seed, 16), nextRandom(&seed, 4))
		along := strokes[nextRandom(&seed, uint64(len(strokes)))]
		part := exactParts(1+nextRandom(&seed, 5), 0, 2)
		if ray.q.x.a != nil {
			ends := []exactPoint{ray.q, ray.q, ray.p.sum(ray.way().scaled(part))}
			add(start, ends[nextRandom(&seed, 3)])
			add(middleOf(ray), ray.p.sum(ray.way().scaled(exactParts(3, 0, 3))))
		}
		add(along.p.sum(along.way().scaled(exactParts(nextRandom(&seed, 3)-1, 0, 1))), along.p.sum(along.way().scaled(part)))
	}
	return list
}

// diagonalsOf returns the segments between points of a pattern that have a direction.
func diagonalsOf(p impl.Pattern) []fold {
	var list []fold
	for i, a := range p.Points {
		for _, b := range p.Points[:i] {
			if impl.DirectionOf(a, b) >= 0 {
				list = append(list, fold{a, b, impl.KdMountain + int64(len(list)%3)})
			}
		}
	}
	return list
}

// linesOn returns lines through places of a pattern, and some others.
func linesOn(p impl.Pattern, seed uint64, count int) []impl.Line {
	var list []impl.Line
	for i, place := range placesLike(p, &seed, count) {
		if l, ok := lineOracle(place, nextRandom(&seed, 8)); ok {
			list = append(list, l)
		}
		if i%8 == 0 {
			lines := someLines()
			list = append(list, lines[nextRandom(&seed, uint64(len(lines)))])
		}
	}
	return list
}

// drawingPatterns are patterns to draw on: those of chapter 6, some of them with points at which nothing
// happens, or so small or large that many places of them leave the limits, and some that are nearly full.
func drawingPatterns(t *testing.T) []impl.Pattern {
	t.Helper()
	list := slices.Clone(somePatterns(t))
	for i, p := range somePatterns(t)[:40] {
		list = append(list, dottedPattern(p, uint64(i)))
		if len(p.Points) > 4 {
			list = append(list, scaledPatterns(p)...)
		}
	}
	for _, size := range [][2]int64{{18, 1}, {17, 1}, {11, 2}, {6, 4}} {
		list = append(list, gridPattern(size[0], size[1]))
	}
	for points := int64(36); points <= 40; points++ {
		list = append(list, sidePattern(points))
	}
	for diagonals := int64(0); diagonals <= 3; diagonals++ {
		list = append(list, filledPattern(7, 4, diagonals), filledPattern(5, 5, 7+diagonals))
	}
	return list
}

// dottedPattern divides some creases of a pattern, and some of the parts once more.
func dottedPattern(p impl.Pattern, seed uint64) impl.Pattern {
	folds := foldsOf(p)
	for len(folds) < min(len(p.Creases)+8, impl.MaxCreases) && len(patternOf(folds).Points) < impl.MaxPoints {
		f := folds[nextRandom(&seed, uint64(len(folds)))]
		middle, ok := middleOf(f.stroke()).valid()
		if !ok {
			break
		}
		folds = cutOracle(folds, middle)
	}
	return patternOf(folds)
}

// scaledPatterns returns a pattern on a smaller scale, so that the greatest K of its coordinates is
// MaxPower, and on a larger one, so that no part of them could be doubled.
func scaledPatterns(p impl.Pattern) []impl.Pattern {
	greatest, part := int64(0), int64(1)
	for _, q := range p.Points {
		greatest = max(greatest, q.X.K, q.Y.K)
		part = max(part, q.X.A, -q.X.A, q.X.B, -q.X.B, q.Y.A, -q.Y.A, q.Y.B, -q.Y.B)
	}
	factor := int64(1)
	for 2*factor*part <= impl.MaxPart {
		factor *= 2
	}
	var list []impl.Pattern
	for _, scale := range []exact{exactParts(1, 0, impl.MaxPower-greatest), exactParts(factor, 0, 0)} {
		scaled := impl.Pattern{Creases: slices.Clone(p.Creases)}
		for _, q := range p.Points {
			moved, _ := exactPointOf(q).scaled(scale).valid()
			scaled.Points = append(scaled.Points, moved)
		}
		list = append(list, scaled)
	}
	return list
}
