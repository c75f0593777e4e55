package tests

import (
	"fmt"
	"slices"
	"testing"

	"loop.example/g00857/impl"
)

// paper2 and paper4 are squares, to which the ways of the tests are added.
const (
	paper2 = "B (0,0) (2,0) (2,2) (0,2) (0,0)"
	paper4 = "B (0,0) (4,0) (4,4) (0,4) (0,0)"
)

// with returns the pattern of a square with some ways.
func with(t *testing.T, paper, ways string) impl.Pattern {
	t.Helper()
	if ways == "" {
		return drawn(t, paper)
	}
	return drawn(t, paper+"; "+ways)
}

// kindOfLetter returns the kind with a letter of kindLetters.
func kindOfLetter(letter string) int64 {
	for i, other := range kindLetters {
		if string(other) == letter {
			return int64(i)
		}
	}
	return -1
}

func TestSquarePattern(t *testing.T) {
	for side, far := range map[int64]string{1: "1", 2: "2", 7: "7", 999: "999", impl.MaxSide: "1000"} {
		want := written(t, fmt.Sprintf("(0,0) (0,%s) (%s,0) (%s,%s)", far, far, far, far), "0-1B 0-2B 1-3B 2-3B")
		got, code := impl.SquarePattern(side)
		checkDrawn(t, "a square", got, want, code, impl.OK)
	}
	for _, side := range append(extremes(), 0, -1, -2, impl.MaxSide+1) {
		if side < 1 || side > impl.MaxSide {
			got, code := impl.SquarePattern(side)
			checkDrawn(t, fmt.Sprint("a square of the side ", side), got, impl.Pattern{}, code, impl.ErrRange)
		}
	}
}

func TestExampleOfAddLine(t *testing.T) {
	p, _ := impl.SquarePattern(2)
	q, code := impl.AddLine(p, mustLine(t, "0@1"), impl.KdValley)
	want := written(t, "(0,0) (0,1) (0,2) (2,0) (2,1) (2,2)", "0-1B 0-3B 1-2B 1-4V 2-5B 3-4B 4-5B")
	checkDrawn(t, "the example", q, want, code, impl.OK)
}

// Each case draws from a to b as a valley.
var segmentCases = []struct{ why, paper, ways, a, b, want string }{
	{"to both sides of the paper", paper2, "", "(0,1)", "(2,1)", "V (0,1) (2,1)"},
	{"from corner to corner", paper2, "", "(0,0)", "(2,2)", "V (0,0) (2,2)"},
	{"from a corner to a side", paper2, "", "(0,0)", "(2,-2+2r)", "V (0,0) (2,-2+2r)"},
	{"from a corner to no crease", paper2, "", "(0,0)", "(1,1)", "V (0,0) (1,1)"},
	{"from a side to no crease", paper2, "", "(0,1)", "(1,1)", "V (0,1) (1,1)"},
	{"from no crease to a corner", paper2, "", "(1,1)", "(2,0)", "V (1,1) (2,0)"},

	{"along a mountain", paper4, "M (0,2) (4,2)", "(0,2)", "(4,2)", "V (0,2) (4,2)"},
	{"along a valley", paper4, "V (0,2) (4,2)", "(0,2)", "(4,2)", "V (0,2) (4,2)"},
	{"along an open crease", paper4, "O (0,2) (4,2)", "(0,2)", "(4,2)", "V (0,2) (4,2)"},
	{"inside of a mountain", paper4, "M (0,2) (4,2)", "(1,2)", "(3,2)", "M (0,2) (1,2); V (1,2) (3,2); M (3,2) (4,2)"},
	{"inside of a valley", paper4, "V (0,2) (4,2)", "(1,2)", "(3,2)", "V (0,2) (1,2) (3,2) (4,2)"},
	{"inside of an open crease", paper4, "O (0,2) (4,2)", "(1,2)", "(3,2)", "O (0,2) (1,2); V (1,2) (3,2); O (3,2) (4,2)"},
	{"from the beginning of a crease to its middle", paper4, "M (0,2) (4,2)", "(0,2)", "(3,2)", "V (0,2) (3,2); M (3,2) (4,2)"},
	{"from the end of a crease to its middle", paper4, "M (0,2) (4,2)", "(4,2)", "(1,2)", "M (0,2) (1,2); V (1,2) (4,2)"},
	{"beyond the end of a crease", paper4, "M (0,2) (2,2)", "(0,2)", "(3,2)", "V (0,2) (2,2) (3,2)"},
	{"from the middle of a crease beyond its end", paper4, "M (0,2) (2,2)", "(1,2)", "(3,2)", "M (0,2) (1,2); V (1,2) (2,2) (3,2)"},
	{"from the end of a crease", paper4, "M (0,2) (2,2)", "(2,2)", "(3,2)", "M (0,2) (2,2); V (2,2) (3,2)"},
	{"beyond both ends of a crease", paper4, "O (0,0) (1,1); M (1,1) (2,1)", "(1/2,1)", "(3,1)", "O (0,0) (1,1); V (1/2,1) (1,1) (2,1) (3,1)"},
	{"over a gap between creases", paper4, "M (0,2) (1,2); O (3,2) (4,2)", "(0,2)", "(4,2)", "V (0,2) (1,2) (3,2) (4,2)"},
	{"over a part of each of two creases and their gap", paper4, "M (0,3) (2,1); O (3,0) (5/2,1/2)", "(1,2)", "(11/4,1/4)", "M (0,3) (1,2); V (1,2) (2,1) (5/2,1/2) (11/4,1/4); O (11/4,1/4) (3,0)"},
	{"over creases of all kinds", paper4, "M (0,2) (1,2); V (1,2) (2,2); O (2,2) (3,2); O (1,2) (1,4)", "(0,2)", "(4,2)", "V (0,2) (1,2) (2,2) (3,2) (4,2); O (1,2) (1,4)"},

	{"across a crease", paper4, "M (2,0) (2,4)", "(0,2)", "(4,2)", "M (2,0) (2,2) (2,4); V (0,2) (2,2) (4,2)"},
	{"across a crease, without ends on creases", paper4, "O (2,0) (2,4)", "(1,2)", "(3,2)", "O (2,0) (2,2) (2,4); V (1,2) (2,2) (3,2)"},
	{"to the middle of a crease", paper4, "M (2,0) (2,4)", "(0,2)", "(2,2)", "M (2,0) (2,2) (2,4); V (0,2) (2,2)"},
	{"from the middle of a crease to no crease", paper4, "M (2,0) (2,4)", "(2,2)", "(3,2)", "M (2,0) (2,2) (2,4); V (2,2) (3,2)"},
	{"between the middles of two creases", paper4, "M (1,0) (1,4); O (3,0) (3,4)", "(3,1)", "(1,3)", "M (1,0) (1,3) (1,4); O (3,0) (3,1) (3,4); V (1,3) (3,1)"},
	{"to a point of the pattern", paper4, "M (2,0) (2,2) (4,4)", "(0,2)", "(2,2)", "M (2,0) (2,2) (4,4); V (0,2) (2,2)"},
	{"across a point of the pattern", paper4, "M (2,0) (2,2) (4,4)", "(0,2)", "(4,2)", "M (2,0) (2,2) (4,4); V (0,2) (2,2) (4,2)"},
	{"across the end of a crease", paper4, "M (0,0) (2,2)", "(1,2)", "(3,2)", "M (0,0) (2,2); V (1,2) (2,2) (3,2)"},
	{"beside the end of a crease", paper4, "M (0,0) (2,2)", "(0,3)", "(3,3)", "M (0,0) (2,2); V (0,3) (3,3)"},
	{"parallel to a crease", paper4, "M (0,2) (4,2)", "(0,3)", "(4,3)", "M (0,2) (4,2); V (0,3) (4,3)"},
	{"on the line of a crease, but not on it", paper4, "M (0,2) (1,2)", "(3,2)", "(4,2)", "M (0,2) (1,2); V (3,2) (4,2)"},
	{"across several creases", paper4, "M (1,0) (1,4); V (2,0) (2,4); O (3,0) (3,4)", "(1/2,1/2)", "(7/2,7/2)", "M (1,0) (1,4); V (2,0) (2,4); O (3,0) (3,4); V (1/2,1/2) (7/2,7/2)"},
	{"in one of the odd directions", paper4, "M (0,4) (4,0)", "(0,0)", "(4,-4+4r)", "M (0,4) (4,0); V (0,0) (4,-4+4r)"},

	{"along a side", paper4, "", "(0,0)", "(4,0)", ""},
	{"along a side, from its middle", paper4, "", "(4,1)", "(4,4)", "B (4,1) (4,4)"},
	{"along a side, to its middle", paper4, "", "(4,4)", "(3,4)", "B (4,4) (3,4)"},
	{"inside of a side", paper4, "", "(0,1)", "(0,3)", "B (0,1) (0,3)"},
	{"along a side that is divided", paper4, "M (1,0) (1,4)", "(1/2,0)", "(3,0)", "M (1,0) (1,4); B (1/2,0) (1,0) (3,0)"},
	{"between parts of a side", paper4, "B (1,0) (2,0)", "(1,0)", "(2,0)", "B (1,0) (2,0)"},
	{"to a point on a side", paper4, "M (2,0) (2,4)", "(2,0)", "(4,2)", "M (2,0) (2,4); V (2,0) (4,2)"},
	{"on a triangle", "B (0,0) (4,0) (4,4) (0,0)", "", "(3,0)", "(2,1)", "V (3,0) (2,1)"},
	{"on the slanted side of a triangle", "B (0,0) (4,0) (4,4) (0,0)", "", "(1,1)", "(2,2)", "B (1,1) (2,2)"},
}

func TestAddCrease(t *testing.T) {
	for _, v := range segmentCases {
		p := with(t, v.paper, v.ways)
		want := with(t, v.paper, v.want)
		got, code := impl.AddCrease(p, mustPoint(t, v.a), mustPoint(t, v.b), impl.KdValley)
		checkDrawn(t, "a segment "+v.why, got, want, code, impl.OK)
		back, code := impl.AddCrease(p, mustPoint(t, v.b), mustPoint(t, v.a), impl.KdValley)
		checkDrawn(t, "backwards, a segment "+v.why, back, want, code, impl.OK)
	}
}

// TestKindsOfParts draws over a crease of each kind with each kind; the border remains.
func TestKindsOfParts(t *testing.T) {
	for _, old := range []string{"B", "M", "V", "O"} {
		for _, drawn := range []string{"M", "V", "O"} {
			p := written(t, "(0,0) (0,1) (1,0) (1,1)", "0-1B 0-2B 0-3"+old+" 1-3B 2-3B")
			a, b, want := p.Points[0], p.Points[3], drawn
			if old == "B" {
				p = written(t, "(0,0) (0,1) (1,0) (1,1)", "0-1B 0-2B 0-3O 1-3B 2-3B")
				b, want = p.Points[1], "O"
			}
			got, code := impl.AddCrease(p, a, b, kindOfLetter(drawn))
			checkDrawn(t, drawn+" over "+old, got, written(t, "(0,0) (0,1) (1,0) (1,1)", "0-1B 0-2B 0-3"+want+" 1-3B 2-3B"), code, impl.OK)
		}
	}
}

// tiny returns a pattern, on the scale of the least coordinates.
func tiny(p impl.Pattern) impl.Pattern {
	return scaledPatterns(p)[0]
}

func TestErrorsOfAddCrease(t *testing.T) {
	square, crossed := with(t, paper4, ""), with(t, paper4, "M (0,0) (4,4); O (1,1) (1,2)")
	rest := tiny(filledPattern(3, 3, 1))
	fullTiny := tiny(filledPattern(19, 1, 1))
	for _, v := range []struct {
		why  string
		p    impl.Pattern
		a, b string
		kind int64
		want int64
	}{
		{"a kind of the border", square, "(0,0)", "(4,4)", impl.KdBorder, impl.ErrInvalid},
		{"the kind 0", square, "(0,0)", "(4,4)", 0, impl.ErrInvalid},
		{"the kind 5", square, "(0,0)", "(4,4)", 5, impl.ErrInvalid},
		{"the kind -1, without a direction", square, "(0,0)", "(0,0)", -1, impl.ErrInvalid},
		{"no pattern", impl.Pattern{}, "(0,0)", "(4,4)", impl.KdValley, impl.ErrInvalid},
		{"no pattern and no direction", impl.Pattern{}, "(0,0)", "(4,3)", impl.KdValley, impl.ErrInvalid},
		{"a point to itself", square, "(0,0)", "(0,0)", impl.KdValley, impl.ErrGeometry},
		{"a point inside to itself", square, "(1,1)", "(1,1)", impl.KdValley, impl.ErrGeometry},
		{"no direction", square, "(0,0)", "(4,2)", impl.KdValley, impl.ErrGeometry},
		{"nearly a direction", square, "(0,0)", "(4,53/32)", impl.KdValley, impl.ErrGeometry},
		{"a outside", square, "(-1,0)", "(4,0)", impl.KdValley, impl.ErrGeometry},
		{"b outside", square, "(0,0)", "(5,5)", impl.KdValley, impl.ErrGeometry},
		{"both outside, across the paper", square, "(-1,2)", "(5,2)", impl.KdValley, impl.ErrGeometry},
		{"both outside", square, "(0,5)", "(4,5)", impl.KdValley, impl.ErrGeometry},
		{"a bit outside", square, "(0,4)", "(4097/1024,4)", impl.KdValley, impl.ErrGeometry},
		{"outside of the paper, though in its rectangle", with(t, "B (0,0) (4,0) (4,4) (0,0)", ""), "(1,1)", "(1,2)", impl.KdValley, impl.ErrGeometry},
		{"a point of two segments that leaves the limits", rest, "(0,1/1024)", "(1/1024,0)", impl.KdValley, impl.ErrRange},
		{"such a point, and an end outside", rest, "(-1/1024,1/512)", "(1/1024,0)", impl.KdValley, impl.ErrGeometry},
		{"such a point, and too many points", fullTiny, "(0,1/1024)", "(1/1024,0)", impl.KdValley, impl.ErrRange},
		{"an end outside, and too many points", sidePattern(40), "(0,-1)", "(0,45)", impl.KdValley, impl.ErrGeometry},
		{"no direction, and no connection", square, "(1,1)", "(2,3)", impl.KdValley, impl.ErrGeometry},
		{"too many points", sidePattern(39), "(0,1)", "(89,90)", impl.KdValley, impl.ErrFull},
		{"too many points by one", sidePattern(40), "(0,0)", "(45,45)", impl.KdValley, impl.ErrFull},
		{"too many creases by one", filledPattern(7, 4, 3), "(3,1)", "(4,2)", impl.KdValley, impl.ErrFull},
		{"too many creases, but not too many points", filledPattern(5, 5, 10), "(4,0)", "(5,1)", impl.KdValley, impl.ErrFull},
		{"too many points, and no connection", sidePattern(39), "(40,40)", "(50,50)", impl.KdValley, impl.ErrFull},
		{"no connection", square, "(1,1)", "(2,2)", impl.KdValley, impl.ErrState},
		{"no connection between creases", crossed, "(3/2,1)", "(3,1)", impl.KdValley, impl.ErrState},
		{"no connection on the line of a crease", crossed, "(1,5/2)", "(1,3)", impl.KdValley, impl.ErrState},
		{"no connection with 40 points", sidePattern(38), "(40,40)", "(50,50)", impl.KdValley, impl.ErrState},
	} {
		got, code := impl.AddCrease(v.p, mustPoint(t, v.a), mustPoint(t, v.b), v.kind)
		checkDrawn(t, v.why, got, impl.Pattern{}, code, v.want)
	}
}

func TestDrawingAtTheLimits(t *testing.T) {
	for _, v := range []struct {
		p               impl.Pattern
		a, b            string
		points, creases int
	}{
		{sidePattern(38), "(0,1)", "(89,90)", 40, 41},
		{sidePattern(39), "(0,0)", "(45,45)", 40, 40},
		{sidePattern(39), "(0,45)", "(0,0)", 40, 40},
		{filledPattern(7, 4, 2), "(3,1)", "(4,2)", 40, 70},
		{filledPattern(7, 4, 3), "(0,0)", "(7,0)", 40, 70},
		{filledPattern(7, 4, 3), "(0,2)", "(7,2)", 40, 70},
		{filledPattern(5, 5, 9), "(4,1)", "(5,2)", 36, 70},
		{filledPattern(5, 5, 9), "(0,1)", "(0,3/2)", 37, 70},
	} {
		a, b := mustPoint(t, v.a), mustPoint(t, v.b)
		want, wantCode := addOracle(v.p, a, b, impl.KdOpen)
		got, code := impl.AddCrease(v.p, a, b, impl.KdOpen)
		checkDrawn(t, fmt.Sprint("from ", v.a, " to ", v.b, " on ", patternText(v.p)), got, want, code, wantCode)
		if len(got.Points) != v.points || len(got.Creases) != v.creases || code != impl.OK {
			t.Errorf("there are %d points and %d creases, not %d and %d, and the code %d", len(got.Points), len(got.Creases), v.points, v.creases, code)
		}
	}
}

func TestAddLine(t *testing.T) {
	square := with(t, paper4, "")
	full := sidePattern(39)
	diamond := drawn(t, "B (0,1) (1,0) (2,1) (1,2) (0,1)")
	for _, v := range []struct {
		why, line string
		p         impl.Pattern
		code      int64
		want      string
	}{
		{"a horizontal line", "0@1", square, impl.OK, "V (0,1) (4,1)"},
		{"a vertical line", "4@-1", square, impl.OK, "V (1,0) (1,4)"},
		{"a diagonal", "2@0", square, impl.OK, "V (0,0) (4,4)"},
		{"the other diagonal", "6@-4", square, impl.OK, "V (0,4) (4,0)"},
		{"a line through a corner", "1@0", square, impl.OK, "V (0,0) (4,-4+4r)"},
		{"a line that cuts off a corner", "6@-1", square, impl.OK, "V (0,1) (1,0)"},
		{"a line with an odd direction", "7@-4", square, impl.OK, "V (0,4) (4,8-4r)"},
		{"a line that touches a corner", "6@0", square, impl.ErrGeometry, ""},
		{"a line that touches the other corner", "6@-8", square, impl.ErrGeometry, ""},
		{"a line with an odd direction that touches a corner", "7@0", square, impl.ErrGeometry, ""},
		{"the line of the lower side", "0@0", square, impl.ErrGeometry, ""},
		{"the line of the upper side", "0@4", square, impl.ErrGeometry, ""},
		{"the line of the left side", "4@0", square, impl.ErrGeometry, ""},
		{"the line of the right side", "4@-4", square, impl.ErrGeometry, ""},
		{"a line below", "0@-1", square, impl.ErrGeometry, ""},
		{"a line above", "0@5", square, impl.ErrGeometry, ""},
		{"a line far away", "2@131072", square, impl.ErrGeometry, ""},
		{"an end that leaves the limits", "2@0", tiny(diamond), impl.ErrRange, ""},
		{"both ends leave the limits", "6@-1/512", tiny(diamond), impl.ErrRange, ""},
		{"a point between the ends leaves the limits", "6@-1/1024", tiny(filledPattern(2, 2, 1)), impl.ErrRange, ""},
		{"a line far from the point that would leave the limits", "6@-3/1024", tiny(filledPattern(2, 2, 1)), impl.OK, "-"},
		{"too many points", "2@1", full, impl.ErrFull, ""},
		{"as many points as possible", "2@0", full, impl.OK, "-"},
		{"too many creases", "2@-3", filledPattern(5, 5, 10), impl.ErrFull, ""},
	} {
		want := impl.Pattern{}
		switch v.want {
		case "":
		case "-":
			want, _ = addLineOracle(v.p, mustLine(t, v.line), impl.KdValley)
		default:
			want = with(t, paper4, v.want)
		}
		got, code := impl.AddLine(v.p, mustLine(t, v.line), impl.KdValley)
		checkDrawn(t, v.why, got, want, code, v.code)
	}
}

func TestRemoveCrease(t *testing.T) {
	for _, v := range []struct {
		why, ways, a, b string
		code            int64
		want            string
	}{
		{"a crease between points of the border", "M (0,2) (4,2)", "(0,2)", "(4,2)", impl.OK, "B (0,2) (0,4); B (4,2) (4,4)"},
		{"a diagonal", "M (0,0) (4,4)", "(0,0)", "(4,4)", impl.OK, ""},
		{"a crease that ends inside", "O (0,0) (1,1)", "(0,0)", "(1,1)", impl.OK, ""},
		{"a crease whose beginning is at no other one", "V (3,3) (4,4)", "(3,3)", "(4,4)", impl.OK, ""},
		{"the last of several creases in a row", "V (0,0) (1,1) (2,1)", "(1,1)", "(2,1)", impl.OK, "V (0,0) (1,1)"},
		{"the first of several creases in a row", "V (0,0) (1,1) (2,1)", "(0,0)", "(1,1)", impl.ErrState, ""},
		{"a part of a way through the paper", "M (0,2) (1,2) (3,2) (4,2)", "(1,2)", "(3,2)", impl.OK, "M (0,2) (1,2); M (3,2) (4,2)"},
		{"the first part of a way through the paper", "M (0,2) (1,2) (3,2) (4,2)", "(0,2)", "(1,2)", impl.OK, "B (0,2) (0,4); M (1,2) (3,2) (4,2)"},
		{"a part between two crossings", "M (1,0) (1,4); V (3,0) (3,4); O (0,2) (4,2)", "(1,2)", "(3,2)", impl.OK, "M (1,0) (1,2) (1,4); V (3,0) (3,2) (3,4); O (0,2) (1,2); O (3,2) (4,2)"},
		{"the way to a ring", "M (0,0) (1,1) (2,1) (2,2) (1,2) (1,1)", "(0,0)", "(1,1)", impl.ErrState, ""},
		{"a part of a ring", "M (0,0) (1,1) (2,1) (2,2) (1,2) (1,1)", "(1,1)", "(2,1)", impl.OK, "M (0,0) (1,1) (1,2) (2,2) (2,1)"},
		{"a side", "", "(0,0)", "(4,0)", impl.ErrState, ""},
		{"a part of the border", "M (0,2) (4,2)", "(0,0)", "(0,2)", impl.ErrState, ""},
	} {
		p := with(t, paper4, v.ways)
		k := impl.CreaseBetween(p, impl.PointOf(p, mustPoint(t, v.a)), impl.PointOf(p, mustPoint(t, v.b)))
		want := impl.Pattern{}
		if v.code == impl.OK {
			want = with(t, paper4, v.want)
		}
		got, code := impl.RemoveCrease(p, k)
		checkDrawn(t, v.why+" that is removed", got, want, code, v.code)
	}
}

func TestErrorsOfRemovingAndSetting(t *testing.T) {
	good := with(t, paper4, "M (0,0) (4,4)")
	for _, k := range append(extremes(), -1, 5, 6, 70, 1<<32, 1<<32+2) {
		if k >= 0 && k < 5 {
			continue
		}
		got, code := impl.RemoveCrease(good, k)
		checkDrawn(t, fmt.Sprint("without the crease ", k), got, impl.Pattern{}, code, impl.ErrRange)
		got, code = impl.SetKind(good, k, impl.KdOpen)
		checkDrawn(t, fmt.Sprint("with another kind of the crease ", k), got, impl.Pattern{}, code, impl.ErrRange)
		got, code = impl.RemoveCrease(impl.Pattern{}, k)
		checkDrawn(t, "of no pattern", got, impl.Pattern{}, code, impl.ErrInvalid)
		for _, kind := range append(extremes(), -1, 0, impl.KdBorder, 5, 6, 1<<32+2) {
			if isKindOracle(kind) {
				continue
			}
			got, code = impl.SetKind(good, k, kind)
			checkDrawn(t, fmt.Sprint("with the kind ", kind, " of no crease"), got, impl.Pattern{}, code, impl.ErrInvalid)
			got, code = impl.SetKind(good, 2, kind)
			checkDrawn(t, fmt.Sprint("with the kind ", kind), got, impl.Pattern{}, code, impl.ErrInvalid)
			got, code = impl.AddLine(good, mustLine(t, "0@1"), kind)
			checkDrawn(t, fmt.Sprint("a line of the kind ", kind), got, impl.Pattern{}, code, impl.ErrInvalid)
		}
		got, code = impl.SetKind(impl.Pattern{}, k, impl.KdOpen)
		checkDrawn(t, "of no pattern", got, impl.Pattern{}, code, impl.ErrInvalid)
	}
	for _, k := range []int64{0, 1, 3, 4} {
		got, code := impl.SetKind(good, k, impl.KdOpen)
		checkDrawn(t, "with another kind of the border", got, impl.Pattern{}, code, impl.ErrState)
	}
	for kind, letter := range map[int64]string{impl.KdMountain: "M", impl.KdValley: "V", impl.KdOpen: "O"} {
		got, code := impl.SetKind(good, 2, kind)
		checkDrawn(t, "with another kind", got, with(t, paper4, letter+" (0,0) (4,4)"), code, impl.OK)
	}
}

func TestNormalPattern(t *testing.T) {
	for _, v := range []struct{ why, ways, want string }{
		{"nothing to remove", "", ""},
		{"a point on a side", "B (1,0) (2,0)", ""},
		{"several points on each side", "B (1,0) (2,0) (3,0); B (4,2) (4,3); B (3,4) (0,4); B (0,1) (0,3)", ""},
		{"a point of two mountains", "M (0,0) (1,1) (4,4)", "M (0,0) (4,4)"},
		{"a point of two valleys", "V (0,0) (1,1) (4,4)", "V (0,0) (4,4)"},
		{"a point of two open creases", "O (0,0) (1,1) (4,4)", "O (0,0) (4,4)"},
		{"several in a row", "M (0,2) (1,2) (3/2,2) (2,2) (7/2,2) (4,2)", "M (0,2) (4,2)"},
		{"a mountain and a valley", "M (0,0) (1,1); V (1,1) (4,4)", "M (0,0) (1,1); V (1,1) (4,4)"},
		{"kinds that change in a row", "M (0,2) (1,2) (2,2); V (2,2) (3,2) (4,2)", "M (0,2) (2,2); V (2,2) (4,2)"},
		{"kinds that change twice in a row", "M (0,2) (1,2); V (1,2) (3,2); M (3,2) (4,2)", "M (0,2) (1,2); V (1,2) (3,2); M (3,2) (4,2)"},
		{"a bend", "M (0,0) (1,1) (2,1)", "M (0,0) (1,1) (2,1)"},
		{"a bend by little", "M (0,0) (1,1) (2,1r)", "M (0,0) (1,1) (2,1r)"},
		{"a crease that ends inside", "M (0,0) (1/2,1/2) (1,1)", "M (0,0) (1,1)"},
		{"a crossing", "M (0,2) (4,2); M (2,0) (2,4)", "M (0,2) (4,2); M (2,0) (2,4)"},
		{"a point of three creases", "M (0,2) (4,2); M (2,2) (2,4)", "M (0,2) (4,2); M (2,2) (2,4)"},
		{"a point on the border with a crease", "M (2,0) (2,1)", "M (2,0) (2,1)"},
		{"a ring with points on it", "M (0,0) (1,1) (2,1) (3,1) (3,3) (2,3) (1,3) (1,2) (1,1)", "M (0,0) (1,1) (3,1) (3,3) (1,3) (1,1)"},
		{"a point on a crease of direction 1", "O (0,0) (2,-2+2r) (4,-4+4r)", "O (0,0) (4,-4+4r)"},
		{"a point on a crease of direction 3", "O (0,0) (-2+2r,2) (-4+4r,4)", "O (0,0) (-4+4r,4)"},
		{"a point on a crease of direction 4", "O (2,0) (2,1) (2,4)", "O (2,0) (2,4)"},
		{"a point on a crease of direction 5", "O (4,0) (6-2r,2) (8-4r,4)", "O (4,0) (8-4r,4)"},
		{"a point on a crease of direction 6", "O (4,0) (3,1) (0,4)", "O (4,0) (0,4)"},
		{"a point on a crease of direction 7", "O (4,0) (2,-2+2r) (0,-4+4r)", "O (4,0) (0,-4+4r)"},
	} {
		p := with(t, paper4, v.ways)
		want := with(t, paper4, v.want)
		if got := impl.NormalPattern(p); !impl.SamePattern(got, want) {
			t.Errorf("the normal form of a pattern with %s is %s, not %s", v.why, patternText(got), patternText(want))
		}
	}
}

func TestPointsOn(t *testing.T) {
	for _, v := range []struct{ why, ways, line, want string }{
		{"a line through both sides", "", "0@1", "(0,1) (4,1)"},
		{"a line through two corners", "", "2@0", "(0,0) (4,4)"},
		{"a line that touches a corner", "", "6@0", "(0,0)"},
		{"the line of a side", "", "0@0", "(0,0) (4,0)"},
		{"the line of a side that is divided", "M (1,0) (1,4)", "0@4", "(0,4) (1,4) (4,4)"},
		{"a line outside", "", "0@5", ""},
		{"a line far away", "", "3@131072", ""},
		{"the line of a crease", "M (0,2) (4,2)", "0@2", "(0,2) (4,2)"},
		{"the line of a crease that ends inside", "M (0,2) (3,2)", "0@2", "(0,2) (3,2) (4,2)"},
		{"the line of a crease that begins inside", "M (1,2) (4,2)", "0@2", "(0,2) (1,2) (4,2)"},
		{"the line of a crease that begins inside, vertically", "M (2,3) (2,4)", "4@-2", "(2,0) (2,3) (2,4)"},
		{"the line of creases in a row", "M (0,2) (1,2) (3,2)", "0@2", "(0,2) (1,2) (3,2) (4,2)"},
		{"a line across a crease", "M (2,0) (2,4)", "0@2", "(0,2) (2,2) (4,2)"},
		{"a line through the end of a crease", "M (0,0) (2,2)", "0@2", "(0,2) (2,2) (4,2)"},
		{"a line beyond the end of a crease", "M (0,0) (2,2)", "0@3", "(0,3) (4,3)"},
		{"a line through a crossing", "M (2,0) (2,4); V (0,2) (4,2)", "2@0", "(0,0) (2,2) (4,4)"},
		{"a vertical line", "V (0,2) (4,2); M (0,0) (4,4)", "4@-1", "(1,0) (1,1) (1,2) (1,4)"},
		{"a line down to the right", "V (0,2) (4,2); M (0,0) (4,4)", "6@-3", "(0,3) (1,2) (3/2,3/2) (3,0)"},
		{"a line with an odd direction", "V (2,0) (2,4)", "1@0", "(0,0) (2,-2+2r) (4,-4+4r)"},
	} {
		want := []impl.Point{}
		if v.want != "" {
			want = mustPoints(t, v.want)
		}
		got, code := impl.PointsOn(with(t, paper4, v.ways), mustLine(t, v.line))
		if code != impl.OK || !slices.Equal(got, want) {
			t.Errorf("%s has the points %v, %d, not %v", v.why, got, code, want)
		}
	}
	diamond := tiny(drawn(t, "B (0,1) (1,0) (2,1) (1,2) (0,1); V (0,1) (2,1)"))
	for line, want := range map[string]int64{"2@0": impl.ErrRange, "2@1/1024": impl.OK, "0@1/1024": impl.OK, "6@-1/512": impl.ErrRange, "2@3/1024": impl.OK} {
		if got, code := impl.PointsOn(diamond, mustLine(t, line)); code != want || want != impl.OK && len(got) != 0 {
			t.Errorf("the points on %s are %v, %d", line, got, code)
		}
	}
}

func TestSplitAt(t *testing.T) {
	ways := "M (0,2) (2,2); V (0,0) (1,1); O (4,0) (3,1)"
	p := with(t, paper4, ways)
	for q, want := range map[string]string{
		"(1,2)":         "M (1,2) (2,2)",
		"(1r,2)":        "M (1r,2) (2,2)",
		"(1/2,1/2)":     "V (1/2,1/2) (1,1)",
		"(7/2,1/2)":     "O (7/2,1/2) (4,0)",
		"(2,0)":         "B (2,0) (4,0)",
		"(0,1)":         "B (0,1) (0,2)",
		"(4,1023/1024)": "B (4,1023/1024) (4,4)",
	} {
		got, code := impl.SplitAt(p, mustPoint(t, q))
		checkDrawn(t, "divided at "+q, got, with(t, paper4, ways+"; "+want), code, impl.OK)
	}
	for q, want := range map[string]int64{
		"(0,2)": impl.ErrExists, "(2,2)": impl.ErrExists, "(0,0)": impl.ErrExists, "(1,1)": impl.ErrExists, "(4,4)": impl.ErrExists,
		"(3,2)": impl.ErrNotFound, "(2,1)": impl.ErrNotFound, "(3/2,3/2)": impl.ErrNotFound, "(2049/1024,2)": impl.ErrNotFound,
		"(5,0)": impl.ErrNotFound, "(-1,2)": impl.ErrNotFound, "(1,2049/1024)": impl.ErrNotFound, "(7,7)": impl.ErrNotFound,
	} {
		got, code := impl.SplitAt(p, mustPoint(t, q))
		checkDrawn(t, "divided at "+q, got, impl.Pattern{}, code, want)
	}
	for _, v := range []struct {
		p    impl.Pattern
		q    string
		want int64
	}{
		{sidePattern(39), "(0,45)", impl.OK}, {sidePattern(40), "(0,45)", impl.ErrFull}, {sidePattern(40), "(45,45)", impl.ErrNotFound}, {sidePattern(40), "(0,0)", impl.ErrExists},
		{filledPattern(5, 5, 9), "(1/2,1/2)", impl.OK}, {filledPattern(5, 5, 10), "(1/2,1/2)", impl.ErrFull}, {filledPattern(5, 5, 10), "(1/2,1/4)", impl.ErrNotFound},
		{filledPattern(7, 4, 0), "(1/2,0)", impl.ErrFull},
	} {
		got, code := impl.SplitAt(v.p, mustPoint(t, v.q))
		if code != v.want || (code == impl.OK) != impl.ValidPattern(got) {
			t.Errorf("%s divided at %s is %s, %d, not %d", patternText(v.p), v.q, patternText(got), code, v.want)
		}
	}
}

func TestInvalidArgumentsOfDrawing(t *testing.T) {
	bad := []impl.Pattern{{}}
	for _, v := range wrongPatterns {
		bad = append(bad, written(t, v.points, v.creases))
	}
	for _, p := range append(bad, wildPatterns()...) {
		if _, ok := patternOracle(p); ok {
			continue
		}
		v := drawingArguments{p, impl.Point{}, mustPoint(t, "(1,1)"), mustLine(t, "2@0"), 0, impl.KdValley}
		checkDrawingRejected(t, v, "AddCrease", "AddLine", "RemoveCrease", "SetKind", "SplitAt", "PointsOn")
		if got := impl.NormalPattern(p); len(got.Points) != 0 || len(got.Creases) != 0 {
			t.Errorf("the normal form of %s is %s", patternText(p), patternText(got))
		}
	}
	good := drawingArguments{with(t, paper4, "M (0,0) (4,4)"), mustPoint(t, "(4,0)"), mustPoint(t, "(0,4)"), mustLine(t, "0@1"), 2, impl.KdValley}
	for _, q := range invalidPoints() {
		v := good
		v.a = q
		checkDrawingRejected(t, v, "AddCrease", "SplitAt")
		v.a, v.b = v.b, v.a
		checkDrawingRejected(t, v, "AddCrease")
		v.a = v.b
		checkDrawingRejected(t, v, "AddCrease", "SplitAt")
	}
	for _, l := range invalidLines() {
		v := good
		v.l = l
		checkDrawingRejected(t, v, "AddLine", "PointsOn")
	}
	for _, kind := range append(extremes(), -1, 0, impl.KdBorder, 5, 6, 1<<32+2, 258) {
		v := good
		v.kind = kind
		if !isKindOracle(kind) {
			checkDrawingRejected(t, v, "AddCrease", "AddLine", "SetKind")
		}
	}
}

// checkDrawingRejected checks that some functions return nothing but ErrInvalid.
func checkDrawingRejected(t *testing.T, v drawingArguments, names ...string) {
	t.Helper()
	calls := drawingResults(v)
	for _, name := range names {
		got := calls[name]()
		want := resultOf(slices.Repeat([]shownList{listOf([]int64{}, 0)}, len(got.lists)), int64(impl.ErrInvalid))
		if got.shown(-1) != want.shown(-1) {
			t.Errorf("%s returns %s for %s and %v", name, got.shown(-1), patternText(v.p), v)
		}
	}
}
