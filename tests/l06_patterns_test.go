package tests

import (
	"fmt"
	"math"
	"slices"
	"testing"

	"loop.example/g00857/impl"
)

func TestPatternConstants(t *testing.T) {
	if got := fmt.Sprint(impl.KdBorder, impl.KdMountain, impl.KdValley, impl.KdOpen, impl.MaxPoints, impl.MaxCreases, impl.MaxFaces); got != "1 2 3 4 40 70 24" {
		t.Error(got)
	}
}

// writtenPattern is a pattern that need not be valid, and why.
type writtenPattern struct{ why, points, creases string }

var wrongPatterns = []writtenPattern{
	{"no points and no creases", "", ""},
	{"no creases", "(0,0) (0,1) (1,0) (1,1)", ""},
	{"one point", "(0,0)", ""},
	{"points out of order", "(0,0) (1,0) (0,1) (1,1)", "0-1B 0-2B 1-3B 2-3B"},
	{"points in descending order", "(1,1) (1,0) (0,1) (0,0)", "0-1B 0-2B 1-3B 2-3B"},
	{"the last two points out of order", "(0,0) (0,1) (1,1) (1,0)", "0-1B 0-3B 1-2B 2-3B"},
	{"a point twice", "(0,0) (0,1) (0,1) (1,0) (1,1)", "0-1B 0-3B 1-4B 3-4B"},
	{"a point twice, both with creases", "(0,0) (0,1) (0,1) (1,0) (1,1)", "0-1B 0-3B 2-4B 3-4B"},
	{"a point twice with a crease between both", "(0,0) (0,1) (0,1) (1,0) (1,1)", "0-1B 0-3B 1-2B 2-4B 3-4B"},
	{"an isolated point inside", "(0,0) (0,2) (1,1) (2,0) (2,2)", "0-1B 0-3B 1-4B 3-4B"},
	{"an isolated point outside", "(0,0) (0,1) (1,0) (1,1) (2,2)", "0-1B 0-2B 1-3B 2-3B"},
	{"an isolated point on the border", "(0,0) (0,1) (0,2) (2,0) (2,2)", "0-2B 0-3B 2-4B 3-4B"},
	{"creases out of order by From", "(0,0) (0,1) (1,0) (1,1)", "0-1B 0-2B 2-3B 1-3B"},
	{"creases out of order by To", "(0,0) (0,1) (1,0) (1,1)", "0-2B 0-1B 1-3B 2-3B"},
	{"a crease twice", "(0,0) (0,1) (1,0) (1,1)", "0-1B 0-2B 0-3V 0-3V 1-3B 2-3B"},
	{"a crease twice with different kinds", "(0,0) (0,1) (1,0) (1,1)", "0-1B 0-2B 0-3M 0-3V 1-3B 2-3B"},
	{"a crease of the border twice", "(0,0) (0,1) (1,0) (1,1)", "0-1B 0-1B 0-2B 1-3B 2-3B"},
	{"a crease of the border twice with different kinds", "(0,0) (0,1) (1,0) (1,1)", "0-1B 0-1V 0-2B 1-3B 2-3B"},
	{"From above To", "(0,0) (0,1) (1,0) (1,1)", "0-1B 0-2B 1-3B 3-2B"},
	{"From equal to To", "(0,0) (0,1) (1,0) (1,1)", "0-1B 0-2B 1-1V 1-3B 2-3B"},
	{"a To without a point", "(0,0) (0,1) (1,0) (1,1)", "0-1B 0-2B 0-4V 1-3B 2-3B"},
	{"a negative From", "(0,0) (0,1) (1,0) (1,1)", "-1-3V 0-1B 0-2B 1-3B 2-3B"},
	{"the kind 0", "(0,0) (0,1) (1,0) (1,1)", "0-1B 0-2B 0-3X 1-3B 2-3B"},
	{"the kind 5", "(0,0) (0,1) (1,0) (1,1)", "0-1B 0-2B 0-3Y 1-3B 2-3B"},
	{"no direction", "(0,0) (0,2) (1,2) (2,0) (2,2)", "0-1B 0-2V 0-3B 1-2B 2-4B 3-4B"},
	{"no direction at the border", "(0,0) (1,2) (2,0)", "0-1B 0-2B 1-2B"},
	{"creases that cross", "(0,0) (0,1) (1,0) (1,1)", "0-1B 0-2B 0-3V 1-2M 1-3B 2-3B"},
	{"creases that cross inside of both in a point of the pattern", "(0,0) (0,2) (1,1) (2,0) (2,2)", "0-1B 0-3B 0-4V 1-3M 1-4B 2-3V 3-4B"},
	{"a crease that ends inside of another one", "(0,0) (0,2) (1,1) (2,0) (2,2)", "0-1B 0-3B 0-4V 1-2M 1-4B 3-4B"},
	{"a crease that ends inside of one of the border", "(0,0) (0,2) (1,2) (2,0) (2,2)", "0-1B 0-3B 1-4B 2-3V 3-4B"},
	{"a crease that begins inside of one of the border", "(0,0) (0,1) (0,2) (1,2) (2,0) (2,2)", "0-2B 0-4B 1-3V 2-3B 3-5B 4-5B"},
	{"creases that overlap in a part", "(0,0) (0,3) (1,1) (2,2) (3,0) (3,3)", "0-1B 0-3V 0-4B 1-5B 2-5M 4-5B"},
	{"creases one of which contains the other one", "(0,0) (0,3) (1,1) (2,2) (3,0) (3,3)", "0-1B 0-2M 0-4B 0-5V 1-5B 2-3M 3-5M 4-5B"},
	{"creases that begin in the same point and overlap", "(0,0) (0,2) (1,1) (2,0) (2,2)", "0-1B 0-2M 0-3B 0-4V 1-4B 3-4B"},
	{"creases that end in the same point and overlap", "(0,0) (0,2) (1,1) (2,0) (2,2)", "0-1B 0-3B 0-4V 1-4B 2-4M 3-4B"},
	{"a crease along the border", "(0,0) (0,1) (0,2) (2,0) (2,2)", "0-1B 0-2V 0-3B 1-2B 2-4B 3-4B"},
	{"creases along the border", "(0,0) (0,1) (0,2) (2,0) (2,2)", "0-1V 0-2B 0-3B 1-2V 2-4B 3-4B"},
	{"a crease to a point outside", "(0,0) (0,1) (1,0) (1,1) (2,2)", "0-1B 0-2B 1-3B 2-3B 3-4V"},
	{"a crease from a point outside", "(-1,-1) (0,0) (0,1) (1,0) (1,1)", "0-1V 1-2B 1-3B 2-4B 3-4B"},
	{"a crease that goes on along a line of the border", "(0,0) (0,1) (0,2) (1,0) (1,1)", "0-1B 0-3B 1-2V 1-4B 3-4B"},
	{"a crease outside between points outside", "(0,0) (0,2) (2,0) (2,2) (3,2) (4,2)", "0-1B 0-2B 1-3B 2-3B 3-4V 4-5V"},
	{"a crease that is not connected", "(0,0) (0,3) (1,1) (2,2) (3,0) (3,3)", "0-1B 0-4B 1-5B 2-3V 4-5B"},
	{"a square inside that is not connected", "(0,0) (0,3) (1,1) (1,2) (2,1) (2,2) (3,0) (3,3)", "0-1B 0-6B 1-7B 2-3V 2-4V 3-5V 4-5V 6-7B"},
	{"two papers", "(0,0) (0,1) (1,0) (1,1) (2,0) (2,1) (3,0) (3,1)", "0-1B 0-2B 1-3B 2-3B 4-5B 4-6B 5-7B 6-7B"},
	{"no border", "(0,0) (0,1) (1,0) (1,1)", "0-1V 0-2V 1-3V 2-3V"},
	{"an open border", "(0,0) (0,1) (1,0) (1,1)", "0-1B 0-2B 1-3B"},
	{"a border with a valley in it", "(0,0) (0,1) (1,0) (1,1)", "0-1B 0-2B 1-3B 2-3V"},
	{"a border with a valley in it, at point 0", "(0,0) (0,1) (1,0) (1,1)", "0-1V 0-2B 1-3B 2-3B"},
	{"a border with an open crease in it", "(0,0) (0,1) (0,2) (2,0) (2,2)", "0-1B 0-3B 1-2O 2-4B 3-4B"},
	{"a crease of the border inside", "(0,0) (0,1) (1,0) (1,1)", "0-1B 0-2B 0-3B 1-3B 2-3B"},
	{"a crease of the border that ends inside", "(0,0) (0,2) (1,1) (2,0) (2,2)", "0-1B 0-2B 0-3B 1-4B 3-4B"},
	{"a crease of the border that ends inside, not at point 0", "(0,0) (0,2) (1,1) (2,0) (2,2)", "0-1B 0-3B 1-4B 2-4B 3-4B"},
	{"a second border inside", "(0,0) (0,3) (1,1) (1,2) (2,1) (2,2) (3,0) (3,3)", "0-1B 0-2V 0-6B 1-7B 2-3B 2-4B 3-5B 4-5B 6-7B"},
	{"a border that visits a point twice", "(0,0) (0,1) (1,0) (1,1) (1,2) (2,1) (2,2)", "0-1B 0-2B 1-3B 2-3B 3-4B 3-5B 4-6B 5-6B"},
	{"a border that visits point 0 twice", "(0,0) (0,2) (1,1) (1,2) (2,0) (2,1)", "0-1B 0-2B 0-4B 0-5B 1-3B 2-3B 2-5V 4-5B"},
	{"a border that is not convex", "(0,0) (0,2) (1,1) (1,2) (2,0) (2,1)", "0-1B 0-4B 1-3B 2-3B 2-5B 4-5B"},
	{"a border with a notch", "(0,0) (0,2) (1,1) (2,0) (2,2)", "0-1B 0-3B 1-2B 2-4B 3-4B"},
	{"a border of one crease", "(0,0) (0,1)", "0-1B"},
	{"a border without an inside", "(0,0) (0,1) (0,2)", "0-1B 0-2B 1-2B"},
	{"a border that crosses itself", "(0,0) (0,1) (1,0) (1,1)", "0-1B 0-3B 1-2B 2-3B"},
	{"point 0 is inside of no border", "(0,1) (1,0) (1,1) (2,0) (2,1)", "0-2V 1-2B 1-3B 2-4B 3-4B"},
}

func TestValidPattern(t *testing.T) {
	for _, p := range somePatterns(t) {
		if !impl.ValidPattern(p) {
			t.Errorf("%s is not valid", patternText(p))
		}
	}
	for _, v := range wrongPatterns {
		p := written(t, v.points, v.creases)
		if _, ok := patternOracle(p); ok || impl.ValidPattern(p) {
			t.Errorf("a pattern with %s is valid", v.why)
		}
	}
	for _, v := range []writtenPattern{
		{"a square", "(0,0) (0,1) (1,0) (1,1)", "0-1B 0-2B 1-3B 2-3B"},
		{"each kind", "(0,0) (0,2) (1,1) (2,0) (2,2)", "0-1B 0-2M 0-3B 1-2V 1-4B 2-3O 2-4O 3-4B"},
		{"a crease that ends inside of a face", "(0,0) (0,2) (1,1) (2,0) (2,2)", "0-1B 0-2M 0-3B 1-4B 3-4B"},
		{"the least polygon", "(0,0) (1/1024,0) (1/1024,1/1024)", "0-1B 0-2B 1-2B"},
		{"a clockwise way from point 0 by its first crease", "(0,2) (1,1) (1,2) (2,0) (2,2)", "0-1B 0-2B 1-3B 2-4B 3-4B"},
		{"point 0 not at the lower left", "(-1,1) (0,0) (0,2) (1,1)", "0-1B 0-2B 0-3M 1-3B 2-3B"},
	} {
		if p := written(t, v.points, v.creases); !impl.ValidPattern(p) {
			t.Errorf("a pattern with %s is not valid", v.why)
		}
	}
}

// sidePattern returns a square with some points on its lower side.
func sidePattern(points int64) impl.Pattern {
	p := impl.Pattern{Points: []impl.Point{{}, {Y: impl.Num{A: 90}}}, Creases: []impl.Crease{{From: 0, To: 1, Kind: impl.KdBorder}}}
	last := int64(0)
	for x := int64(1); x <= points-3; x++ {
		k := int64(len(p.Points))
		p.Points = append(p.Points, impl.Point{X: impl.Num{A: x}})
		insertCrease(&p, impl.Crease{From: last, To: k, Kind: impl.KdBorder})
		last = k
	}
	p.Points[last].X.A = 90
	p.Points = append(p.Points, impl.Point{X: impl.Num{A: 90}, Y: impl.Num{A: 90}})
	insertCrease(&p, impl.Crease{From: 1, To: last + 1, Kind: impl.KdBorder})
	insertCrease(&p, impl.Crease{From: last, To: last + 1, Kind: impl.KdBorder})
	return p
}

// filledPattern returns a grid with diagonals in some of its squares.
func filledPattern(columns, rows int64, diagonals int64) impl.Pattern {
	p := gridPattern(columns, rows)
	for i := range diagonals {
		k := i/rows*(rows+1) + i%rows
		insertCrease(&p, impl.Crease{From: k, To: k + rows + 2, Kind: impl.KdValley})
	}
	return p
}

func TestLimitsOfPatterns(t *testing.T) {
	t.Parallel()
	for _, v := range []struct {
		p               impl.Pattern
		points, creases int
		want            bool
	}{
		{sidePattern(5), 5, 5, true}, {sidePattern(39), 39, 39, true}, {sidePattern(40), 40, 40, true}, {sidePattern(41), 41, 41, false}, {sidePattern(60), 60, 60, false},
		{gridPattern(19, 1), 40, 58, true}, {filledPattern(7, 4, 2), 40, 69, true}, {filledPattern(7, 4, 3), 40, 70, true}, {filledPattern(7, 4, 4), 40, 71, false},
		{filledPattern(5, 4, 20), 30, 69, true}, {filledPattern(5, 5, 10), 36, 70, true}, {filledPattern(5, 5, 11), 36, 71, false}, {gridPattern(20, 1), 42, 61, false},
	} {
		if len(v.p.Points) != v.points || len(v.p.Creases) != v.creases {
			t.Fatalf("the pattern has %d points and %d creases, not %d and %d", len(v.p.Points), len(v.p.Creases), v.points, v.creases)
		}
		if impl.ValidPattern(v.p) != v.want {
			t.Errorf("ValidPattern of a pattern with %d points and %d creases is not %v", v.points, v.creases, v.want)
		}
		checkPattern(t, v.p)
	}
}

// crossedPattern returns a square with a crease from its first point and one from a later point, which
// cross. Some points on the left side are between both, so that the creases are far apart in the list.
func crossedPattern(points int64, divided bool) impl.Pattern {
	far := impl.Num{A: 80}
	strokes := []stroke{}
	corners := exactRing([]impl.Point{{}, {X: far}, {X: far, Y: far}, {Y: far}})
	for i, corner := range corners {
		strokes = append(strokes, stroke{corner, corners[(i+1)%4], impl.KdBorder})
	}
	for y := range points {
		at := exactPointOf(impl.Point{Y: impl.Num{A: y + 1}})
		strokes = append(strokes, stroke{at, corners[3], impl.KdBorder})
	}
	upright := exactRing([]impl.Point{{X: impl.Num{A: 40}}, {X: impl.Num{A: 40}, Y: far}})
	strokes = append(strokes, stroke{corners[0], corners[2], impl.KdValley}, stroke{upright[0], upright[1], impl.KdMountain})
	p, _ := drawOracle(strokes)
	if divided {
		return p
	}
	middle := int64(slices.Index(p.Points, impl.Point{X: impl.Num{A: 40}, Y: impl.Num{A: 40}}))
	p.Points = slices.Delete(p.Points, int(middle), int(middle)+1)
	p.Creases = slices.DeleteFunc(p.Creases, func(c impl.Crease) bool { return c.From == middle || c.To == middle })
	for i := range p.Creases {
		if p.Creases[i].From > middle {
			p.Creases[i].From--
		}
		if p.Creases[i].To > middle {
			p.Creases[i].To--
		}
	}
	insertCrease(&p, impl.Crease{From: 0, To: int64(len(p.Points)) - 1, Kind: impl.KdValley})
	insertCrease(&p, impl.Crease{From: middle - 1, To: middle, Kind: impl.KdMountain})
	return p
}

func TestCreasesCrossWhereverTheyAre(t *testing.T) {
	for points := int64(0); points <= 33; points++ {
		if p := crossedPattern(points, true); !impl.ValidPattern(p) {
			t.Errorf("%s is not valid", patternText(p))
		}
		p := crossedPattern(points, false)
		if impl.ValidPattern(p) {
			t.Errorf("%s is valid", patternText(p))
		}
		// The valley is the crease from the first point. Without it, the pattern is valid.
		p.Creases = slices.DeleteFunc(p.Creases, func(c impl.Crease) bool { return c.Kind == impl.KdValley })
		if !impl.ValidPattern(p) {
			t.Errorf("%s is not valid", patternText(p))
		}
	}
}

func TestSamePattern(t *testing.T) {
	good := gridPattern(2, 2)
	for i := range good.Points {
		for _, change := range []func(q *impl.Point){func(q *impl.Point) { q.X.A++ }, func(q *impl.Point) { q.X.B-- }, func(q *impl.Point) { q.X.K++ }, func(q *impl.Point) { q.Y.A = math.MinInt64 }, func(q *impl.Point) { q.Y.K-- }} {
			checkDifferent(t, good, i, 0, change, func(*impl.Crease) {})
		}
	}
	for i := range good.Creases {
		for _, change := range []func(c *impl.Crease){func(c *impl.Crease) { c.From-- }, func(c *impl.Crease) { c.To = math.MaxInt64 }, func(c *impl.Crease) { c.Kind += 3 }} {
			checkDifferent(t, good, 0, i, func(*impl.Point) {}, change)
		}
	}
	none, empty := impl.Pattern{}, impl.Pattern{Points: []impl.Point{}, Creases: []impl.Crease{}}
	if !impl.SamePattern(none, empty) || !impl.SamePattern(empty, none) || !impl.SamePattern(none, none) || impl.SamePattern(none, good) {
		t.Error("empty lists are not treated as nil")
	}
	for _, short := range []impl.Pattern{{Points: good.Points}, {Creases: good.Creases}, {Points: good.Points[:8], Creases: good.Creases}, {Points: good.Points, Creases: good.Creases[1:]}, {Points: good.Points, Creases: good.Creases[:11]}} {
		if impl.SamePattern(short, good) || impl.SamePattern(good, short) || !impl.SamePattern(short, short) {
			t.Errorf("SamePattern of %s and the whole pattern is true", patternText(short))
		}
	}
}

// checkDifferent changes one point and one crease of a pattern.
func checkDifferent(t *testing.T, p impl.Pattern, point, crease int, changePoint func(*impl.Point), changeCrease func(*impl.Crease)) {
	t.Helper()
	changed := impl.Pattern{Points: slices.Clone(p.Points), Creases: slices.Clone(p.Creases)}
	if !impl.SamePattern(p, changed) || !impl.SamePattern(changed, p) {
		t.Errorf("%s is not the same as its copy", patternText(p))
	}
	changePoint(&changed.Points[point])
	changeCrease(&changed.Creases[crease])
	if impl.SamePattern(p, changed) || impl.SamePattern(changed, p) || !impl.SamePattern(changed, changed) {
		t.Errorf("%s and %s are the same", patternText(p), patternText(changed))
	}
}

func TestPaperAndBorder(t *testing.T) {
	for _, v := range []struct {
		text, paper      string
		border, interior []int64
	}{
		{"B (0,0) (1,0) (2,0) (2,2) (0,2) (0,0)", "(0,0) (2,0) (2,2) (0,2)", []int64{0, 2, 3, 4, 1}, nil},
		{"B (0,0) (2,0) (2,2) (0,2) (0,0); V (1,0) (1,2); M (0,1) (2,1)", "(0,0) (2,0) (2,2) (0,2)", []int64{0, 3, 6, 7, 8, 5, 2, 1}, []int64{4}},
		{"B (0,1) (1,0) (2,1) (1,2) (0,1); M (0,1) (2,1); V (1,0) (1,2)", "(0,1) (1,0) (2,1) (1,2)", []int64{0, 1, 4, 3}, []int64{2}},
		{"B (0,0) (3,0) (3,3) (0,3) (0,0); M (0,0) (1,1) (2,1) (2,2) (1,2) (1,1)", "(0,0) (3,0) (3,3) (0,3)", []int64{0, 6, 7, 1}, []int64{2, 3, 4, 5}},
		{"B (0,0) (2,0) (2,1) (2,2) (1,1) (0,0)", "(0,0) (2,0) (2,2)", []int64{0, 2, 3, 4, 1}, nil},
		{"B (0,0) (1,0) (2,0) (3,0) (3,1) (3,3) (2,3) (0,3) (0,2) (0,1) (0,0); O (1,0) (1,1)", "(0,0) (3,0) (3,3) (0,3)", []int64{0, 4, 6, 8, 9, 10, 7, 3, 2, 1}, []int64{5}},
	} {
		p := drawn(t, v.text)
		if got := impl.PaperOf(p); !slices.Equal(got, mustPoints(t, v.paper)) {
			t.Errorf("the paper of %q is %v", v.text, got)
		}
		if got := impl.BorderOf(p); !slices.Equal(got, v.border) {
			t.Errorf("the border of %q is %v", v.text, got)
		}
		if got := impl.InteriorOf(p); !slices.Equal(got, v.interior) {
			t.Errorf("the interior of %q is %v", v.text, got)
		}
	}
}

func TestCreasesOfPoints(t *testing.T) {
	p := written(t, "(0,0) (0,2) (1,1) (2,0) (2,2)", "0-1B 0-2M 0-3B 1-2V 1-4B 2-3O 2-4O 3-4B")
	for k, want := range map[int64][]int64{0: {2, 1, 0}, 1: {4, 0, 3}, 2: {6, 3, 1, 5}, 3: {7, 5, 2}, 4: {4, 6, 7}, 5: nil, -1: nil} {
		if got := impl.CreasesAt(p, k); !slices.Equal(got, want) {
			t.Errorf("the creases at %d are %v, not %v", k, got, want)
		}
	}
	for _, v := range [][3]int64{{0, 1, 0}, {0, 2, 1}, {0, 3, 2}, {1, 2, 3}, {1, 4, 4}, {2, 3, 5}, {2, 4, 6}, {3, 4, 7}, {0, 4, -1}, {1, 3, -1}, {2, 2, -1}, {0, 5, -1}, {-1, 0, -1}, {4, 5, -1}, {7, 9, -1}} {
		if impl.CreaseBetween(p, v[0], v[1]) != v[2] || impl.CreaseBetween(p, v[1], v[0]) != v[2] {
			t.Errorf("the crease between %d and %d is %d and %d", v[0], v[1], impl.CreaseBetween(p, v[0], v[1]), impl.CreaseBetween(p, v[1], v[0]))
		}
	}
	for _, v := range []struct {
		q    string
		want int64
	}{{"(0,0)", 0}, {"(0,2)", 1}, {"(1,1)", 2}, {"(2,0)", 3}, {"(2,2)", 4}, {"(1,0)", -1}, {"(1/2,1/2)", -1}, {"(0,1r)", -1}, {"(3,3)", -1}} {
		if got := impl.PointOf(p, mustPoint(t, v.q)); got != v.want {
			t.Errorf("the index of %s is %d", v.q, got)
		}
	}
	for _, k := range append(wildDirections(), math.MinInt64) {
		if got := impl.CreasesAt(p, k); (k < 0 || k > 4) && len(got) != 0 {
			t.Errorf("the creases at %d are %v", k, got)
		}
		for _, other := range []int64{-1, 0, 4, 5, k} {
			if (k < 0 || k > 4) && (impl.CreaseBetween(p, k, other) != -1 || impl.CreaseBetween(p, other, k) != -1) {
				t.Errorf("there is a crease between %d and %d", k, other)
			}
		}
	}
	for _, q := range append(invalidPoints(), impl.Point{X: impl.Num{A: 2, K: 1}, Y: impl.Num{A: 1}}) {
		if got := impl.PointOf(p, q); got != -1 {
			t.Errorf("the index of the invalid point %v is %d", q, got)
		}
	}
}

func TestKindsOfCreases(t *testing.T) {
	p := written(t, "(0,0) (0,2) (1,1) (2,0) (2,2)", "0-1B 0-2M 0-3B 1-2V 1-4B 2-3O 2-4M 3-4B")
	if got := impl.CountKinds(p); !slices.Equal(got, []int64{4, 2, 1, 1}) {
		t.Errorf("the numbers of kinds are %v", got)
	}
	want := written(t, "(0,0) (0,2) (1,1) (2,0) (2,2)", "0-1B 0-2V 0-3B 1-2M 1-4B 2-3O 2-4V 3-4B")
	if got := impl.ExchangeKinds(p); !impl.SamePattern(got, want) {
		t.Errorf("the pattern with exchanged kinds is %s", patternText(got))
	}
	if got := impl.CountKinds(want); !slices.Equal(got, []int64{4, 1, 2, 1}) {
		t.Errorf("the numbers of exchanged kinds are %v", got)
	}
	square := written(t, "(0,0) (0,1) (1,0) (1,1)", "0-1B 0-2B 1-3B 2-3B")
	if got := impl.CountKinds(square); !slices.Equal(got, []int64{4, 0, 0, 0}) || !impl.SamePattern(impl.ExchangeKinds(square), square) {
		t.Errorf("a square has the kinds %v and becomes %s", got, patternText(impl.ExchangeKinds(square)))
	}
}

func TestInvalidPatternsAreRejected(t *testing.T) {
	for _, v := range wrongPatterns {
		checkPatternRejected(t, written(t, v.points, v.creases))
	}
	rejected := 0
	for _, p := range wildPatterns() {
		if _, ok := patternOracle(p); !ok {
			checkPatternRejected(t, p)
			rejected++
		} else if !impl.ValidPattern(p) {
			t.Errorf("%s is not valid", patternText(p))
		}
	}
	if rejected < 1000 {
		t.Errorf("only %d patterns are rejected", rejected)
	}
}

func checkPatternRejected(t *testing.T, p impl.Pattern) {
	t.Helper()
	if impl.ValidPattern(p) {
		t.Errorf("%s is valid", patternText(p))
	}
	lists := slices.Concat(impl.BorderOf(p), impl.InteriorOf(p), impl.CreasesAt(p, 0), impl.CreasesAt(p, 1), impl.CountKinds(p))
	if len(lists) != 0 || len(impl.PaperOf(p)) != 0 {
		t.Errorf("%s has the paper %v and the indices %v", patternText(p), impl.PaperOf(p), lists)
	}
	point := impl.Point{}
	if len(p.Points) > 0 {
		point = p.Points[0]
	}
	if got := []int64{impl.PointOf(p, point), impl.CreaseBetween(p, 0, 1), impl.CreaseBetween(p, 1, 0)}; !slices.Equal(got, []int64{-1, -1, -1}) {
		t.Errorf("%s has the indices %v", patternText(p), got)
	}
	if !impl.SamePattern(impl.ExchangeKinds(p), impl.Pattern{}) {
		t.Errorf("ExchangeKinds of %s is not the zero Pattern", patternText(p))
	}
}
