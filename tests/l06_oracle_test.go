package tests

import (
	"fmt"
	"math"
	"slices"
	"strings"
	"sync"
	"testing"

	"loop.example/g00857/impl"
)

// stroke is a segment without limits.
type stroke struct {
	p    exactPoint
	q    exactPoint
	kind int64
}

func (s stroke) way() exactPoint { return s.q.difference(s.p) }

func (s stroke) endsIn(v exactPoint) bool { return v.equals(s.p) || v.equals(s.q) }

// contains compares the place of a point along the line of the stroke with both ends.
func (s stroke) contains(v exactPoint) bool {
	rest := v.difference(s.p)
	place := rest.dot(s.way())
	return rest.cross(s.way()).isZero() && place.sign() >= 0 && place.difference(s.way().dot(s.way())).sign() <= 0
}

// common returns the ends of what two strokes have in common: none, one or two points.
func (s stroke) common(other stroke) []exactPoint {
	det := s.way().cross(other.way())
	var found []exactPoint
	if !det.isZero() {
		rest := other.p.difference(s.p)
		meet := s.p.sum(s.way().scaled(rest.cross(other.way()).quotient(det)))
		found = append(found, meet)
	} else {
		found = append(found, s.p, s.q, other.p, other.q)
	}
	found = slices.DeleteFunc(found, func(v exactPoint) bool { return !s.contains(v) || !other.contains(v) })
	slices.SortFunc(found, compareExact)
	return slices.CompactFunc(found, exactPoint.equals)
}

// drawOracle returns the pattern of strokes, which are divided at all common points. What belongs to
// several of them is border if one of them is, and otherwise has the kind of the last one.
func drawOracle(strokes []stroke) (impl.Pattern, bool) {
	var places []exactPoint
	for i, s := range strokes {
		places = append(places, s.p, s.q)
		for _, other := range strokes[:i] {
			places = append(places, s.common(other)...)
		}
	}
	slices.SortFunc(places, compareExact)
	places = slices.CompactFunc(places, exactPoint.equals)
	points, ok := validRing(places)
	kinds := map[[2]int64]int64{}
	for _, s := range strokes {
		last := int64(-1)
		for k, place := range places {
			if !s.contains(place) {
				continue
			}
			ends := [2]int64{last, int64(k)}
			if last >= 0 && kinds[ends] != impl.KdBorder {
				kinds[ends] = s.kind
			}
			last = int64(k)
		}
	}
	p := impl.Pattern{Points: points}
	for ends, kind := range kinds {
		p.Creases = append(p.Creases, impl.Crease{From: ends[0], To: ends[1], Kind: kind})
	}
	slices.SortFunc(p.Creases, func(a, b impl.Crease) int { return int((a.From-b.From)*100 + a.To - b.To) })
	return p, ok && len(p.Points) <= impl.MaxPoints && len(p.Creases) <= impl.MaxCreases
}

// kindLetters has the letter of each kind, and of 0 and 5.
const kindLetters = "XBMVOY"

// readStrokes reads ways such as `B (0,0) (1,0) (1,1); V (0,0) (1,1)`: a kind and some points.
func readStrokes(t *testing.T, text string) []stroke {
	t.Helper()
	var strokes []stroke
	for _, way := range strings.Split(text, ";") {
		letter, rest, _ := strings.Cut(strings.TrimSpace(way), " ")
		points := exactRing(mustPoints(t, rest))
		for i := range len(points) - 1 {
			strokes = append(strokes, stroke{points[i], points[i+1], int64(strings.Index(kindLetters, letter))})
		}
	}
	return strokes
}

// drawn returns the pattern of the ways of a text, whose border is closed by the first of its points.
func drawn(t *testing.T, text string) impl.Pattern {
	t.Helper()
	p, ok := drawOracle(readStrokes(t, text))
	if !ok {
		t.Fatalf("%q cannot be drawn", text)
	}
	return p
}

// written returns the pattern with some points, and with creases such as `0-1B`; it need not be valid.
func written(t *testing.T, points, creases string) impl.Pattern {
	t.Helper()
	p := impl.Pattern{Points: mustPoints(t, points)}
	for _, word := range strings.Fields(creases) {
		var c impl.Crease
		var letter string
		if _, err := fmt.Sscanf(word, "%d-%d%s", &c.From, &c.To, &letter); err != nil {
			t.Fatalf("%q is no crease", word)
		}
		c.Kind = int64(strings.Index(kindLetters, letter))
		p.Creases = append(p.Creases, c)
	}
	return p
}

// patternText shows a pattern in messages.
func patternText(p impl.Pattern) string {
	if len(p.Points) > 2*impl.MaxPoints || len(p.Creases) > 2*impl.MaxCreases {
		return fmt.Sprintf("the pattern with %d points and %d creases", len(p.Points), len(p.Creases))
	}
	var words []string
	for _, q := range p.Points {
		words = append(words, fmt.Sprint(impl.PointText(q)))
	}
	return fmt.Sprint(words, p.Creases)
}

// outline is what the oracle finds out about a valid pattern.
type outline struct {
	ring  []int64
	paper []impl.Point
}

// patternOracle checks the conditions of the definition one after the other.
func patternOracle(p impl.Pattern) (outline, bool) {
	if !pointsOracle(p.Points) || !creasesOracle(p) {
		return outline{}, false
	}
	strokes := strokesOf(p)
	for i, s := range strokes {
		for _, other := range strokes[:i] {
			found := s.common(other)
			if len(found) > 1 || len(found) == 1 && !(s.endsIn(found[0]) && other.endsIn(found[0])) {
				return outline{}, false
			}
		}
	}
	if componentsOracle(len(p.Points), p.Creases) != 1 {
		return outline{}, false
	}
	return outlineOracle(p, strokes)
}

func pointsOracle(list []impl.Point) bool {
	if len(list) > impl.MaxPoints {
		return false
	}
	for i, q := range list {
		if !impl.ValidPoint(q) || i > 0 && compareExact(exactPointOf(list[i-1]), exactPointOf(q)) >= 0 {
			return false
		}
	}
	return true
}

func creasesOracle(p impl.Pattern) bool {
	last := [2]int64{-1, -1}
	for _, c := range p.Creases {
		ends := [2]int64{c.From, c.To}
		inside := c.From >= 0 && c.From < c.To && c.To < int64(len(p.Points))
		if !inside || slices.Compare(last[:], ends[:]) >= 0 || !slices.Contains([]int64{1, 2, 3, 4}, c.Kind) {
			return false
		}
		if directionOracle(p.Points[c.From], p.Points[c.To]) < 0 {
			return false
		}
		last = ends
	}
	return len(p.Creases) <= impl.MaxCreases
}

func strokesOf(p impl.Pattern) []stroke {
	var list []stroke
	for _, c := range p.Creases {
		list = append(list, stroke{exactPointOf(p.Points[c.From]), exactPointOf(p.Points[c.To]), c.Kind})
	}
	return list
}

// componentsOracle counts the connected parts of a graph by joining the parts of the ends of each crease.
func componentsOracle(points int, creases []impl.Crease) int {
	part := make([]int, points)
	for i := range part {
		part[i] = i
	}
	for _, c := range creases {
		from, to := part[c.From], part[c.To]
		for i := range part {
			if part[i] == from {
				part[i] = to
			}
		}
	}
	slices.Sort(part)
	return len(slices.Compact(part))
}

// outlineOracle checks the border and the creases in the paper. The border is a convex polygon if it
// is one closed line, and each of its creases is on a side of the convex hull of its points.
func outlineOracle(p impl.Pattern, strokes []stroke) (outline, bool) {
	var ends []exactPoint
	var border []impl.Crease
	degrees := map[int64]int{}
	for i, s := range strokes {
		if s.kind == impl.KdBorder {
			ends = append(ends, s.p, s.q)
			border = append(border, p.Creases[i])
			degrees[p.Creases[i].From]++
			degrees[p.Creases[i].To]++
		}
	}
	for _, degree := range degrees {
		if degree != 2 {
			return outline{}, false
		}
	}
	// The points that are not on the border are parts of their own.
	hull := hullOracle(ends)
	if len(hull) == 0 || componentsOracle(len(p.Points), border) != 1+len(p.Points)-len(degrees) {
		return outline{}, false
	}
	for _, s := range strokes {
		if s.kind == impl.KdBorder && !onSideOracle(hull, s) || s.kind != impl.KdBorder && !runsOracle(hull, s) {
			return outline{}, false
		}
	}
	paper, ok := validRing(hull)
	return outline{ring: ringOracle(p, hull), paper: paper}, ok
}

func onSideOracle(hull []exactPoint, s stroke) bool {
	for i, corner := range hull {
		next := hull[(i+1)%len(hull)]
		if turnOracle(corner, next, s.p) == 0 && turnOracle(corner, next, s.q) == 0 {
			return true
		}
	}
	return false
}

func runsOracle(hull []exactPoint, s stroke) bool {
	return inOracle(hull, s.p) >= 0 && inOracle(hull, s.q) >= 0 && crossesOracle(hull, s.p, s.q)
}

// ringOracle goes along the sides of the hull; the points of a side are sorted, or in reverse order.
func ringOracle(p impl.Pattern, hull []exactPoint) []int64 {
	var ring []int64
	for i, corner := range hull {
		next := hull[(i+1)%len(hull)]
		var onSide []int64
		for k, q := range p.Points {
			if turnOracle(corner, next, exactPointOf(q)) == 0 {
				onSide = append(onSide, int64(k))
			}
		}
		if compareExact(corner, next) > 0 {
			slices.Reverse(onSide)
		}
		ring = append(ring, onSide[:len(onSide)-1]...)
	}
	return ring
}

// spokesOracle returns the creases at a point by their directions, and these.
func spokesOracle(p impl.Pattern, k int64) (creases, dirs []int64) {
	byDirection := map[int64]int64{}
	for i, c := range p.Creases {
		if c.From == k {
			byDirection[directionOracle(p.Points[c.From], p.Points[c.To])] = int64(i)
		}
		if c.To == k {
			byDirection[directionOracle(p.Points[c.To], p.Points[c.From])] = int64(i)
		}
	}
	for d := range int64(16) {
		if crease, ok := byDirection[d]; ok {
			creases, dirs = append(creases, crease), append(dirs, d)
		}
	}
	return creases, dirs
}

// patternTexts are patterns as ways: papers of several forms, those of the library, points at which
// nothing happens, creases that end inside or hang on one point, faces that are not convex, tiny
// patterns, and such at the limits.
var patternTexts = []string{
	"B (0,0) (1,0) (1,1) (0,1) (0,0)",
	"B (0,0) (1,0) (1,1) (0,1) (0,0); V (0,0) (1,1)",
	"B (0,0) (1,0) (2,0) (2,2) (0,2) (0,0)",
	"B (0,0) (2,0) (2,2) (0,2) (0,0); V (1,0) (1,2); M (0,1) (2,1)",
	"B (0,0) (2,0) (2,2) (0,2) (0,0); V (0,1) (1,1) (2,1)",
	"B (0,0) (2,0) (2,2) (0,2) (0,0); M (0,1) (1,1); V (1,1) (2,1)",
	"B (0,0) (2,0) (2,2) (0,2) (0,0); V (0,1) (2,1); O (1,1) (1,2)",
	"B (0,0) (2,0) (2,2) (0,2) (0,0); V (0,1) (2,1); O (1,1) (1,2); M (2,0) (1,1)",
	"B (0,0) (4,0) (4,4) (0,4) (0,0); V (2,0) (4,2) (2,4) (0,2) (2,0)",
	"B (0,0) (4,0) (4,4) (0,4) (0,0); V (0,0) (2r,4-2r) (4,4); V (4,0) (2r,4-2r); M (2r,0) (2r,4-2r)",
	"B (0,0) (4,0) (4,4) (0,4) (0,0); V (0,0) (2r,4-2r) (4,4); V (4,0) (2r,4-2r); M (2r,0) (2r,4-2r); V (0,0) (4-2r,2r) (4,4); V (0,4) (4-2r,2r); M (0,2r) (4-2r,2r)",
	"B (0,0) (4,0) (4,4) (0,4) (0,0); V (0,0) (4,-4+4r); V (0,0) (-4+4r,4)",
	"B (0,0) (4,0) (4,4) (0,4) (0,0); M (1,0) (1r,1) (1,2) (1r,3) (1,4); V (2,0) (1+1r,1) (2,2) (1+1r,3) (2,4); V (0,1) (1r,1); M (1r,1) (1+1r,1); V (1+1r,1) (4,1); M (0,2) (1,2); V (1,2) (2,2); M (2,2) (4,2); V (0,3) (1r,3); M (1r,3) (1+1r,3); V (1+1r,3) (4,3)",
	"B (0,0) (4,0) (4,4) (0,4) (0,0); V (1,0) (1,4); M (2,0) (2,4); V (3,0) (3,4)",
	"B (0,0) (4,0) (4,4) (0,4) (0,0); V (2,0) (2,4); V (0,2) (4,2); M (0,0) (4,4)",
	"B (0,0) (8,0) (8,8) (0,8) (0,0); M (0,3) (4,3); V (4,0) (4,3); M (5,0) (5,4); V (8,4) (5,4); M (8,5) (4,5); V (4,8) (4,5); M (3,8) (3,4); V (0,4) (3,4); V (4,3) (5,4) (4,5) (3,4) (4,3)",
	"B (0,0) (4,0) (4,4) (0,4) (0,0); V (0,0) (4,4); V (0,4) (4,0); M (0,2) (4,2)",
	"B (0,1) (1,0) (2,1) (1,2) (0,1); M (0,1) (2,1); V (1,0) (1,2)",
	"B (0,0) (2,0) (2,2) (0,0); O (1,0) (1,1); O (2,1) (1,1)",
	"B (-3,-1) (5,-1) (5,2) (0,2) (-3,-1); M (-1,-1) (-1,1); V (5,2) (2,-1); M (-1,0) (5,0)",
	"B (0,0) (-1+1r,-1) (1r,-2) (1+1r,-1-1r) (2+1r,-1-1r) (3+1r,-2) (4+1r,-1) (3+2r,0) (3+2r,1) (4+1r,2) (3+1r,3) (2+1r,2+1r) (1+1r,2+1r) (1r,3) (-1+1r,2) (0,1) (0,0); M (0,0) (3+2r,0); V (1r,-2) (1r,3)",
	"B (-131072,-131072) (131072,-131072) (131072,131072) (-131072,131072) (-131072,-131072); V (-131072,-131072) (131072,131072); M (0,0) (131072,-131072); O (-131072,131072) (0,0) (131072,-131072+131072r)",
	"B (0,0) (1/1024,0) (1/1024,1/1024) (0,1/1024) (0,0); V (0,0) (1/1024,1/1024); M (0,0) (1/1024,(-1+1r)/1024)",
	"B (0,0) (3,0) (3,3) (0,3) (0,0); M (0,0) (1,1)",
	"B (0,0) (3,0) (3,3) (0,3) (0,0); M (0,0) (1,1) (2,1) (2,2) (1,2) (1,1)",
	"B (0,0) (3,0) (3,3) (0,3) (0,0); M (0,0) (2,-2+2r) (2,2) (-2+2r,2) (0,0)",
	"B (0,0) (3,0) (3,3) (0,3) (0,0); V (0,1) (1,1) (1,0)",
	"B (0,0) (3,0) (3,3) (0,3) (0,0); V (0,1) (1,1) (1,0); O (1,1) (3,3)",
	"B (0,0) (3,0) (3,3) (0,3) (0,0); V (0,1) (1,1) (1,0); O (1,1) (2,2)",
	"B (0,0) (3,0) (3,3) (0,3) (0,0); O (0,1) (3,1); O (1,1) (1,2) (2,2)",
	"B (0,0) (4,0) (4,4) (0,4) (0,0); O (0,2) (4,2); O (1,2) (2,3) (3,2)",
	"B (0,0) (4,0) (4,4) (0,4) (0,0); O (0,2) (4,2); O (1,2) (2,3) (3,2) (2,1) (1,2); O (2,3) (2,4)",
}

// randomStrokes draws a paper and some creases from it: whole lines, ways to the next crease or to the
// one behind it, and, if loose is set, ways that end inside of a face.
func randomStrokes(state *uint64, loose bool) []stroke {
	papers := [][]exactPoint{
		randomSquare(state), randomSquare(state), randomSquare(state),
		exactRing([]impl.Point{{}, {X: impl.Num{A: 6}}, {X: impl.Num{A: 6}, Y: impl.Num{A: 6}}}),
		exactRing([]impl.Point{{Y: impl.Num{A: 3}}, {X: impl.Num{A: 3}}, {X: impl.Num{A: 6}, Y: impl.Num{A: 3}}, {X: impl.Num{A: 3}, Y: impl.Num{A: 6}}}),
	}
	ring := papers[nextRandom(state, uint64(len(papers)))]
	var strokes []stroke
	for i, corner := range ring {
		strokes = append(strokes, stroke{corner, ring[(i+1)%len(ring)], impl.KdBorder})
	}
	for range 1 + nextRandom(state, 9) {
		from := strokes[nextRandom(state, uint64(len(strokes)))]
		start := from.p.sum(from.way().scaled(exactParts(nextRandom(state, 3), 0, 1)))
		d, kind, mode := nextRandom(state, 16), 2+nextRandom(state, 3), nextRandom(state, 4)
		if line, ok := rayOracle(ring, strokes, start, d, mode); ok {
			strokes = append(strokes, stroke{line.p, line.q, kind})
		}
		back, ok := rayOracle(ring, strokes, start, d+8, mode)
		if mode == 0 && ok {
			strokes = append(strokes, stroke{back.p, back.q, kind})
		}
		if ok && loose && nextRandom(state, 4) == 0 {
			strokes = append(strokes, stroke{back.p, back.p.sum(back.way().scaled(exactParts(1, 0, 1))), kind})
		}
	}
	return strokes
}

// rayOracle goes from a point in a direction to the border, or to the first or the second stroke.
func rayOracle(ring []exactPoint, strokes []stroke, start exactPoint, d, mode int64) (stroke, bool) {
	far := stroke{p: start, q: start.sum(vectorOracle(d % 16).scaled(exactParts(1000, 0, 0)))}
	var hits []exactPoint
	for _, s := range strokes {
		for _, v := range s.common(far) {
			if !v.equals(start) {
				hits = append(hits, v)
			}
		}
	}
	slices.SortFunc(hits, func(v, w exactPoint) int {
		return int(v.difference(start).dot(far.way()).difference(w.difference(start).dot(far.way())).sign())
	})
	hits = slices.CompactFunc(hits, exactPoint.equals)
	if len(hits) == 0 {
		return stroke{}, false
	}
	end := hits[len(hits)-1]
	if mode > 0 {
		end = hits[min(int(mode/3), len(hits)-1)]
	}
	found := stroke{p: start, q: end}
	return found, crossesOracle(ring, start, end)
}

// gridPattern returns squares in rows and columns with creases between them, which may be too many.
func gridPattern(columns, rows int64) impl.Pattern {
	var p impl.Pattern
	for x := range columns + 1 {
		for y := range rows + 1 {
			p.Points = append(p.Points, impl.Point{X: impl.Num{A: x}, Y: impl.Num{A: y}})
			k := x*(rows+1) + y
			if y < rows {
				p.Creases = append(p.Creases, impl.Crease{From: k, To: k + 1, Kind: gridKind(x, columns, y)})
			}
			if x < columns {
				p.Creases = append(p.Creases, impl.Crease{From: k, To: k + rows + 1, Kind: gridKind(y, rows, x)})
			}
		}
	}
	return p
}

// gridKind returns the kind of a crease on the line with the number line of last, at a place on it.
func gridKind(line, last, place int64) int64 {
	if line == 0 || line == last {
		return impl.KdBorder
	}
	return impl.KdMountain + (line+place)%3
}

var patternsOnce sync.Once
var drawnPatterns []impl.Pattern

// stripesPattern returns a paper with two parallel creases, each divided into parts.
func stripesPattern(parts int64) impl.Pattern {
	at := func(x, y int64) exactPoint { return exactPoint{exactParts(x, 0, 0), exactParts(y, 0, 0)} }
	border := []exactPoint{at(0, 0), at(parts, 0), at(parts, 3), at(0, 3), at(0, 0)}
	var strokes []stroke
	for i := range 4 {
		strokes = append(strokes, stroke{border[i], border[i+1], impl.KdBorder})
	}
	for x := range parts {
		for y := int64(1); y <= 2; y++ {
			strokes = append(strokes, stroke{at(x, y), at(x+1, y), impl.KdMountain + (x+y)%3})
		}
	}
	p, _ := drawOracle(strokes)
	return p
}

// somePatterns are valid patterns, which are not to be changed: those of the texts, grids, and random ones.
func somePatterns(t *testing.T) []impl.Pattern {
	t.Helper()
	patternsOnce.Do(func() {
		var list []impl.Pattern
		for _, text := range patternTexts {
			list = append(list, drawn(t, text))
		}
		for _, size := range [][2]int64{{3, 1}, {1, 5}, {4, 4}, {6, 4}, {4, 6}, {5, 5}, {19, 1}, {1, 13}, {12, 2}} {
			list = append(list, gridPattern(size[0], size[1]))
		}
		list = append(list, stripesPattern(1), stripesPattern(4), stripesPattern(9))
		state := uint64(31)
		for len(list) < 160 {
			if p, ok := drawOracle(randomStrokes(&state, len(list)%3 == 0)); ok {
				list = append(list, p)
			}
		}
		drawnPatterns = list
	})
	if len(drawnPatterns) == 0 {
		t.Fatal("the patterns cannot be drawn")
	}
	return drawnPatterns
}

// patternsLike returns variants of a pattern, most of which are not valid.
func patternsLike(p impl.Pattern, seed uint64) []impl.Pattern {
	var list []impl.Pattern
	points, creases := len(p.Points), len(p.Creases)
	add := func(change func(p *impl.Pattern)) {
		variant := impl.Pattern{Points: slices.Clone(p.Points), Creases: slices.Clone(p.Creases)}
		change(&variant)
		list = append(list, variant)
	}
	pick := func(n int) int { return int(nextRandom(&seed, uint64(n))) }
	for range 4 {
		add(func(p *impl.Pattern) { p.Creases = slices.Delete(p.Creases, pick(creases), creases) })
		add(func(p *impl.Pattern) { i := pick(creases); p.Creases = slices.Delete(p.Creases, i, i+1) })
		add(func(p *impl.Pattern) { i := pick(creases); p.Creases = slices.Insert(p.Creases, i, p.Creases[i]) })
		add(func(p *impl.Pattern) { p.Creases[pick(creases)].Kind = int64(pick(6)) })
		add(func(p *impl.Pattern) { p.Creases[pick(creases)].Kind = impl.KdBorder })
		add(func(p *impl.Pattern) { p.Creases[pick(creases)].From = int64(pick(points+2) - 1) })
		add(func(p *impl.Pattern) { p.Creases[pick(creases)].To = int64(pick(points+2) - 1) })
		add(func(p *impl.Pattern) { c := &p.Creases[pick(creases)]; c.From, c.To = c.To, c.From })
		add(func(p *impl.Pattern) {
			i, j := pick(creases), pick(creases)
			p.Creases[i], p.Creases[j] = p.Creases[j], p.Creases[i]
		})
		add(func(p *impl.Pattern) {
			i, j := pick(points), pick(points)
			p.Points[i], p.Points[j] = p.Points[j], p.Points[i]
		})
		add(func(p *impl.Pattern) { i := pick(points - 1); p.Points[i] = p.Points[i+1] })
		add(func(p *impl.Pattern) { p.Points = p.Points[:pick(points)] })
		add(func(p *impl.Pattern) { p.Points[pick(points)].X.A += int64(pick(3) - 1) })
		add(func(p *impl.Pattern) { p.Points[pick(points)].Y.B += int64(pick(3) - 1) })
		add(func(p *impl.Pattern) { p.Points = append(p.Points, randomPoint(&seed)) })
		add(func(p *impl.Pattern) { insertPoint(p, randomPoint(&seed)) })
		add(func(p *impl.Pattern) { c := p.Creases[pick(creases)]; insertMiddle(p, c) })
	}
	for range 24 {
		add(func(p *impl.Pattern) {
			from := pick(points - 1)
			insertCrease(p, impl.Crease{From: int64(from), To: int64(from + 1 + pick(points-from-1)), Kind: int64(1 + pick(4))})
		})
	}
	return list
}

// insertPoint inserts a point where it belongs, and renumbers the ends of creases.
func insertPoint(p *impl.Pattern, q impl.Point) {
	k := int64(0)
	for k < int64(len(p.Points)) && impl.ComparePoints(p.Points[k], q) < 0 {
		k++
	}
	p.Points = slices.Insert(p.Points, int(k), q)
	for i := range p.Creases {
		c := &p.Creases[i]
		if c.From >= k {
			c.From++
		}
		if c.To >= k {
			c.To++
		}
	}
}

func insertMiddle(p *impl.Pattern, c impl.Crease) {
	if middle, ok := impl.MidPoint(p.Points[c.From], p.Points[c.To]); ok {
		insertPoint(p, middle)
	}
}

// insertCrease inserts a crease where it belongs, or replaces the one with the same ends.
func insertCrease(p *impl.Pattern, c impl.Crease) {
	i := 0
	for i < len(p.Creases) && (p.Creases[i].From < c.From || p.Creases[i].From == c.From && p.Creases[i].To < c.To) {
		i++
	}
	if i < len(p.Creases) && p.Creases[i].From == c.From && p.Creases[i].To == c.To {
		p.Creases[i] = c
		return
	}
	p.Creases = slices.Insert(p.Creases, i, c)
}

// wildPatterns are patterns with fields far outside of the limits, and very long ones.
func wildPatterns() []impl.Pattern {
	good := gridPattern(2, 2)
	list := []impl.Pattern{{}, {Points: good.Points}, {Creases: good.Creases}, {Points: good.Points[:1]}, {Points: good.Points[:1], Creases: []impl.Crease{{Kind: impl.KdBorder}}}}
	for _, v := range append(extremes(), 4, 5, 8, 9, 10, -1<<32, 1<<32, 1<<32+1, math.MinInt64+9) {
		for i := range good.Creases {
			for field := range 3 {
				bad := slices.Clone(good.Creases)
				*[]*int64{&bad[i].From, &bad[i].To, &bad[i].Kind}[field] = v
				list = append(list, impl.Pattern{Points: good.Points, Creases: bad})
			}
		}
	}
	for i, q := range invalidPoints() {
		bad := slices.Clone(good.Points)
		bad[i%len(bad)] = q
		list = append(list, impl.Pattern{Points: bad, Creases: good.Creases})
	}
	for _, n := range []int{41, 71, 1000, 200000} {
		crease := impl.Crease{From: 0, To: 1, Kind: impl.KdBorder}
		list = append(list,
			impl.Pattern{Points: make([]impl.Point, n), Creases: make([]impl.Crease, n)},
			impl.Pattern{Points: slices.Repeat(good.Points, n/4), Creases: good.Creases},
			impl.Pattern{Points: good.Points, Creases: slices.Repeat(good.Creases, n/4)},
			impl.Pattern{Points: good.Points, Creases: slices.Repeat([]impl.Crease{crease}, n)},
		)
	}
	return list
}
