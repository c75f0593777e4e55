package tests

import (
	"slices"
	"strings"
	"testing"

	"loop.example/g00857/impl"
)

// exactLine is the line of the points whose scalar product with the normal is off.
type exactLine struct {
	normal exactPoint
	off    exact
}

func exactLineOf(l impl.Line) exactLine {
	return exactLine{normalOracle(l.Dir), exactOf(l.Off)}
}

func (l exactLine) height(p exactPoint) exact {
	return l.normal.dot(p).difference(l.off)
}

func exactRing(list []impl.Point) []exactPoint {
	ring := make([]exactPoint, len(list))
	for i, p := range list {
		ring[i] = exactPointOf(p)
	}
	return ring
}

func compareExact(p, q exactPoint) int {
	if s := p.x.difference(q.x).sign(); s != 0 {
		return int(s)
	}
	return int(p.y.difference(q.y).sign())
}

// hullOracle returns the corners of the convex hull of points, counterclockwise from the least one
// on, and none if it has no inside. (Andrew's monotone chain.)
func hullOracle(points []exactPoint) []exactPoint {
	sorted := slices.SortedFunc(slices.Values(points), compareExact)
	sorted = slices.CompactFunc(sorted, exactPoint.equals)
	lower := chainOracle(sorted)
	slices.Reverse(sorted)
	upper := chainOracle(sorted)
	if len(lower)+len(upper) < 5 {
		return nil
	}
	return append(lower[:len(lower)-1], upper[:len(upper)-1]...)
}

func chainOracle(sorted []exactPoint) []exactPoint {
	var chain []exactPoint
	for _, p := range sorted {
		for len(chain) >= 2 && turnOracle(chain[len(chain)-2], chain[len(chain)-1], p) <= 0 {
			chain = chain[:len(chain)-1]
		}
		chain = append(chain, p)
	}
	return chain
}

// turnOracle returns 1 if r is to the left of the way from p to q, and -1 if it is to the right.
func turnOracle(p, q, r exactPoint) int64 {
	return q.difference(p).cross(r.difference(p)).sign()
}

// inOracle returns where a point is in a convex ring: 1, 0 or -1.
func inOracle(ring []exactPoint, p exactPoint) int64 {
	where := int64(1)
	for i, corner := range ring {
		where = min(where, turnOracle(corner, ring[(i+1)%len(ring)], p))
	}
	return where
}

// halfOracle returns the part of a ring on one side of a line, as the hull of the corners on this
// side and the points in which the line crosses sides.
func halfOracle(ring []exactPoint, l exactLine, side int64) []exactPoint {
	var found []exactPoint
	for i, p := range ring {
		q := ring[(i+1)%len(ring)]
		a, b := l.height(p), l.height(q)
		if a.sign()*side >= 0 {
			found = append(found, p)
		}
		if a.sign()*b.sign() < 0 {
			found = append(found, p.sum(q.difference(p).scaled(a.quotient(a.difference(b)))))
		}
	}
	return hullOracle(found)
}

// commonOracle returns the intersection of two rings, as the hull of the corners of one that are in
// the other one, and of the points in which the lines of their sides meet, as far as they are in both.
func commonOracle(a, b []exactPoint) []exactPoint {
	candidates := slices.Concat(a, b)
	for i, p := range a {
		for j, q := range b {
			u, v := a[(i+1)%len(a)].difference(p), b[(j+1)%len(b)].difference(q)
			if det := u.cross(v); !det.isZero() {
				candidates = append(candidates, p.sum(u.scaled(q.difference(p).cross(v).quotient(det))))
			}
		}
	}
	return hullOracle(slices.DeleteFunc(candidates, func(p exactPoint) bool {
		return inOracle(a, p) < 0 || inOracle(b, p) < 0
	}))
}

// crossesOracle divides the segment where it meets the lines of the sides, and looks at the middles.
func crossesOracle(ring []exactPoint, p, q exactPoint) bool {
	way := q.difference(p)
	cuts := []exact{exactParts(0, 0, 0), exactParts(1, 0, 0)}
	for i, corner := range ring {
		side := ring[(i+1)%len(ring)].difference(corner)
		if det := way.cross(side); !det.isZero() {
			cuts = append(cuts, corner.difference(p).cross(side).quotient(det))
		}
	}
	one := exactParts(1, 0, 0)
	cuts = slices.DeleteFunc(cuts, func(c exact) bool { return c.sign() < 0 || c.difference(one).sign() > 0 })
	slices.SortFunc(cuts, func(a, b exact) int { return int(a.difference(b).sign()) })
	for i := range len(cuts) - 1 {
		middle := cuts[i].sum(cuts[i+1]).product(exactParts(1, 0, 1))
		if inOracle(ring, p.sum(way.scaled(middle))) == 1 {
			return true
		}
	}
	return false
}

// areaOracle returns twice the area of a ring.
func areaOracle(ring []exactPoint) exact {
	sum := exactParts(0, 0, 0)
	for i, p := range ring {
		sum = sum.sum(p.cross(ring[(i+1)%len(ring)]))
	}
	return sum
}

// validRing returns the valid points of a ring, if all of them are valid.
func validRing(ring []exactPoint) ([]impl.Point, bool) {
	var list []impl.Point
	for _, v := range ring {
		p, ok := v.valid()
		if !ok {
			return nil, false
		}
		list = append(list, p)
	}
	return list, true
}

// normalPolygonOracle returns the hull of the points if it has all of them as its corners, each of its
// sides has a direction, and a rotation of the list or of its reverse is equal to it.
func normalPolygonOracle(list []impl.Point) ([]impl.Point, bool) {
	if len(list) < 3 || len(list) > 16 || slices.ContainsFunc(list, func(p impl.Point) bool { return !impl.ValidPoint(p) }) {
		return nil, false
	}
	hull := hullOracle(exactRing(list))
	for i, p := range hull {
		if wayOracle(hull[(i+1)%len(hull)].difference(p)) < 0 {
			return nil, false
		}
	}
	normal, _ := validRing(hull)
	reverse := slices.Clone(list)
	slices.Reverse(reverse)
	for i := range list {
		if slices.Equal(normal, slices.Concat(list[i:], list[:i])) || slices.Equal(normal, slices.Concat(reverse[i:], reverse[:i])) {
			return normal, true
		}
	}
	return nil, false
}

func validPolygonOracle(list []impl.Point) bool {
	normal, ok := normalPolygonOracle(list)
	return ok && slices.Equal(normal, list)
}

func polygonTextOracle(s string) ([]impl.Point, bool) {
	var list []impl.Point
	for _, word := range strings.Split(s, " ") {
		p, ok := pointTextOracle(word)
		if !ok {
			return nil, false
		}
		list = append(list, p)
	}
	if !validPolygonOracle(list) {
		return nil, false
	}
	return list, true
}

// mustPoints returns the points of a text, which need not be a polygon.
func mustPoints(t *testing.T, s string) []impl.Point {
	t.Helper()
	list := []impl.Point{}
	for _, word := range strings.Fields(s) {
		list = append(list, mustPoint(t, word))
	}
	return list
}

// polygonTexts are polygons with all numbers of corners and all directions, at the limits, and tiny.
var polygonTexts = []string{
	"(0,0) (2,0) (2,2) (0,2)",
	"(0,1) (1,0) (2,1) (1,2)",
	"(1,0) (3,0) (3,2) (1,2)",
	"(0,0) (2,0) (2,2)",
	"(0,0) (2,0) (0,2)",
	"(0,0) (2,-2+2r) (2,2) (0,2)",
	"(0,0) (1,0) (1,-1+1r)",
	"(0,0) (1,0) (2+1r,1) (1+1r,1)",
	"(-131072,-131072) (131072,-131072) (131072,131072) (-131072,131072)",
	"(-131072,0) (0,-131072) (131072,0) (0,131072)",
	"(131071,131071) (131072,131071) (131072,131072)",
	"(0,0) (1/1024,0) (1/1024,1/1024) (0,1/1024)",
	"(3/4,769/1024) (5/4,1281/1024) (3/4,1281/1024)",
	"(-1r,0) (1,0) (1,1/1024) (-1r,1/1024)",
	"(-131072-131072r,0) (131072+131072r,0) (131072+131072r,1) (-131072-131072r,1)",
	"(0,-114243+80782r) (131072,-114243+80782r) (131072,1/2) (0,1/2)",
	"(0,0) (2r,-2r) (2+2r,-2r) (2+4r,0) (2+4r,2) (2+2r,2+2r) (2r,2+2r) (0,2)",
	hexadecagonText,
}

// hexadecagonText is the polygon whose sides are the vectors of all 16 directions.
const hexadecagonText = "(0,0) (-1+1r,-1) (1r,-2) (1+1r,-1-1r) (2+1r,-1-1r) (3+1r,-2) (4+1r,-1) (3+2r,0) (3+2r,1) (4+1r,2) (3+1r,3) (2+1r,2+1r) (1+1r,2+1r) (1r,3) (-1+1r,2) (0,1)"

// somePolygons are those of polygonTexts, and parts of squares from which some lines cut corners off.
func somePolygons(t *testing.T, count int) [][]impl.Point {
	t.Helper()
	var list [][]impl.Point
	for _, s := range polygonTexts {
		list = append(list, mustPoints(t, s))
	}
	state := uint64(3)
	for len(list) < count {
		ring := randomSquare(&state)
		for range 1 + nextRandom(&state, 6) {
			line := exactLine{normalOracle(nextRandom(&state, 8)), exactParts(0, 0, 0)}
			line.off = line.normal.dot(exactPointOf(randomPoint(&state)))
			if part := halfOracle(ring, line, 2*nextRandom(&state, 2)-1); len(part) > 0 {
				ring = part
			}
		}
		if polygon, ok := validRing(ring); ok {
			list = append(list, polygon)
		}
	}
	return list
}

func randomSquare(state *uint64) []exactPoint {
	p := exactPointOf(randomPoint(state))
	side := exactParts(1+nextRandom(state, 6), nextRandom(state, 3), 0)
	across, up := vectorOracle(0).scaled(side), vectorOracle(4).scaled(side)
	return []exactPoint{p, p.sum(across), p.sum(across).sum(up), p.sum(up)}
}

// randomPoint returns a valid point near the origin.
func randomPoint(state *uint64) impl.Point {
	coordinate := func() impl.Num {
		x, _ := exactParts(nextRandom(state, 17)-8, nextRandom(state, 5)-2, nextRandom(state, 3)).valid()
		return x
	}
	return impl.Point{X: coordinate(), Y: coordinate()}
}

// listsLike returns variants of a polygon, most of which are not in normal form or no polygons at all.
func listsLike(list []impl.Point) [][]impl.Point {
	reverse := slices.Clone(list)
	slices.Reverse(reverse)
	variants := [][]impl.Point{nil, list[:2], list[1:], slices.Concat(list, list), reverse}
	for i := range list {
		next := (i + 1) % len(list)
		swapped := slices.Clone(list)
		swapped[i], swapped[next] = swapped[next], swapped[i]
		middle, _ := impl.MidPoint(list[i], list[next])
		variants = append(variants,
			slices.Concat(list[i:], list[:i]),
			slices.Concat(reverse[i:], reverse[:i]),
			slices.Delete(slices.Clone(list), i, i+1),
			slices.Insert(slices.Clone(list), i, list[i]),
			slices.Insert(slices.Clone(list), i+1, middle),
			slices.Concat(list[:i], []impl.Point{{X: impl.Num{K: 1}}}, list[i+1:]),
			swapped,
		)
	}
	return variants
}

// linesLike returns lines of all directions through the corners of a polygon, through the middle
// between two of them, and beside them.
func linesLike(list []impl.Point) []impl.Line {
	points := slices.Clone(list[:min(len(list), 4)])
	middle, _ := impl.MidPoint(list[0], list[len(list)/2])
	points = append(points, middle, impl.Point{X: impl.Num{A: 1}, Y: impl.Num{A: 3, B: -1, K: 1}}, impl.Point{X: impl.Num{A: 1, K: 10}}, impl.Point{X: impl.Num{A: 5000}, Y: impl.Num{B: 7}})
	var lines []impl.Line
	for _, p := range points {
		for dir := range int64(impl.LineDirections) {
			if l, ok := lineOracle(exactPointOf(p), dir); ok {
				lines = append(lines, l)
			}
		}
	}
	return lines
}

// pointsLike returns corners, middles of sides and diagonals, and other points near a polygon.
func pointsLike(list []impl.Point) []impl.Point {
	points := slices.Clone(list)
	for i, p := range list {
		for _, q := range []impl.Point{list[(i+1)%len(list)], list[(i+2)%len(list)], {}, {X: impl.Num{A: 1}, Y: impl.Num{A: 1}}} {
			if middle, ok := impl.MidPoint(p, q); ok {
				points = append(points, middle)
			}
			if beyond, ok := exactPointOf(q).sum(exactPointOf(q)).difference(exactPointOf(p)).valid(); ok {
				points = append(points, beyond)
			}
		}
	}
	return points
}
