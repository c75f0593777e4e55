package tests

import (
	"math"
	"regexp"
	"slices"
	"testing"

	"loop.example/g00857/impl"
)

// exactMove moves a point without limits, in the steps of the definition of a motion.
func exactMove(m impl.Motion, v exactPoint) exactPoint {
	if m.Flip {
		v.y = v.y.negative()
	}
	half := exactParts(0, 1, 1)
	for range m.Turn {
		v = exactPoint{v.x.difference(v.y).product(half), v.x.sum(v.y).product(half)}
	}
	return v.sum(exactPointOf(impl.Point{X: m.X, Y: m.Y}))
}

// linearParts are the motions that keep the origin.
func linearParts() []impl.Motion {
	var list []impl.Motion
	for turn := range int64(8) {
		list = append(list, impl.Motion{Turn: turn}, impl.Motion{Turn: turn, Flip: true})
	}
	return list
}

// linearPlaces holds the places of 1, 0 and 0, 1 for each of the motions of linearParts.
var linearPlaces = func() [][2]exactPoint {
	var list [][2]exactPoint
	for _, m := range linearParts() {
		list = append(list, [2]exactPoint{exactMove(m, vectorOracle(0)), exactMove(m, vectorOracle(4))})
	}
	return list
}()

// motionOracle returns the valid motion that moves three points to their places, by trying all turns
// with and without Flip.
func motionOracle(place func(v exactPoint) exactPoint) (impl.Motion, bool) {
	origin := place(exactPointOf(impl.Point{}))
	right, up := place(vectorOracle(0)).difference(origin), place(vectorOracle(4)).difference(origin)
	shift, ok := origin.valid()
	if !ok {
		return impl.Motion{}, false
	}
	for i, m := range linearParts() {
		if linearPlaces[i][0].equals(right) && linearPlaces[i][1].equals(up) {
			m.X, m.Y = shift.X, shift.Y
			return m, true
		}
	}
	panic("the places are not those of a motion")
}

func composeOracle(first, second impl.Motion) (impl.Motion, bool) {
	return motionOracle(func(v exactPoint) exactPoint { return exactMove(second, exactMove(first, v)) })
}

// invertOracle tries all turns after a step back.
func invertOracle(m impl.Motion) (impl.Motion, bool) {
	shift := exactPointOf(impl.Point{X: m.X, Y: m.Y})
	linear := impl.Motion{Turn: m.Turn, Flip: m.Flip}
	for _, back := range linearParts() {
		if exactMove(back, exactMove(linear, vectorOracle(0))).equals(vectorOracle(0)) && exactMove(back, exactMove(linear, vectorOracle(4))).equals(vectorOracle(4)) {
			return motionOracle(func(v exactPoint) exactPoint { return exactMove(back, v.difference(shift)) })
		}
	}
	panic("a motion has no inverse")
}

func reflectionOracle(l impl.Line) (impl.Motion, bool) {
	return motionOracle(func(v exactPoint) exactPoint { return reflectOracle(l, v) })
}

func movePointOracle(m impl.Motion, p impl.Point) (impl.Point, bool) {
	return exactMove(m, exactPointOf(p)).valid()
}

// moveDirectionOracle moves a vector of the direction d.
func moveDirectionOracle(m impl.Motion, d int64) int64 {
	return wayOracle(exactMove(impl.Motion{Turn: m.Turn, Flip: m.Flip}, vectorOracle(d)))
}

// moveLineOracle moves two points of a line and returns the line through their places.
func moveLineOracle(m impl.Motion, l impl.Line) (impl.Line, bool) {
	foot := footOracle(l)
	p, q := exactMove(m, foot), exactMove(m, foot.sum(vectorOracle(l.Dir)))
	return lineOracle(p, wayOracle(q.difference(p))%8)
}

// movePolygonOracle returns the hull of the places of the corners.
func movePolygonOracle(m impl.Motion, list []impl.Point) ([]impl.Point, bool) {
	ring := exactRing(list)
	for i, v := range ring {
		ring[i] = exactMove(m, v)
	}
	return validRing(hullOracle(ring))
}

var motionForm = regexp.MustCompile(`^([rf])([0-7]) (\([^ ]*\))$`)

func motionTextOracle(s string) (impl.Motion, bool) {
	match := motionForm.FindStringSubmatch(s)
	if match == nil {
		return impl.Motion{}, false
	}
	shift, ok := pointTextOracle(match[3])
	if !ok {
		return impl.Motion{}, false
	}
	return impl.Motion{Turn: int64(match[2][0] - '0'), Flip: match[1] == "f", X: shift.X, Y: shift.Y}, true
}

func mustMotion(t *testing.T, s string) impl.Motion {
	t.Helper()
	m, ok := motionTextOracle(s)
	if !ok {
		t.Fatalf("%q is no motion", s)
	}
	return m
}

// shiftTexts are the places of the origin by someMotions: small ones, and such at the limits.
var shiftTexts = []string{
	"(0,0)", "(4,0)", "(0,-3)", "(1r/2,(1+3r)/4)", "(-7/8,2-1r)", "(1/1024,0)", "((3-5r)/1024,1/512)",
	"(131072,-131072)", "(-131071,131072r)", "(131072+131072r,-131072-131072r)", "(65536,1/1024)",
}

// someMotions are motions with all turns, with and without Flip.
func someMotions(t *testing.T) []impl.Motion {
	t.Helper()
	var list []impl.Motion
	for _, m := range linearParts() {
		for _, s := range shiftTexts {
			shift := mustPoint(t, s)
			m.X, m.Y = shift.X, shift.Y
			list = append(list, m)
		}
	}
	return list
}

// invalidMotions are motions whose Turn, X or Y are invalid.
func invalidMotions() []impl.Motion {
	var list []impl.Motion
	turns := append(extremes(), -8, 8, 9, 16, 1<<32, 1<<32+1, math.MinInt64+8)
	for _, turn := range slices.DeleteFunc(turns, func(turn int64) bool { return turn >= 0 && turn < 8 }) {
		list = append(list, impl.Motion{Turn: turn}, impl.Motion{Turn: turn, Flip: true, X: impl.Num{A: 1}})
	}
	for i, p := range invalidPoints() {
		list = append(list, impl.Motion{Turn: int64(i % 9), Flip: i%2 == 0, X: p.X, Y: p.Y})
	}
	return list
}
