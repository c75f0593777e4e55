package tests

import (
	"slices"
	"testing"

	"loop.example/g00857/impl"
)

func TestPolygonConstants(t *testing.T) {
	if impl.MaxCorners != 16 || impl.MaxSide != 1000 {
		t.Error(impl.MaxCorners, impl.MaxSide)
	}
}

// wrongPolygonTexts are lists of points that are no polygons, each for another reason.
var wrongPolygonTexts = []string{
	"",
	"(0,0)",
	"(0,0) (1,0)",
	"(0,0) (2,2) (2,0)",
	"(2,0) (2,2) (0,2) (0,0)",
	"(0,2) (0,0) (2,0) (2,2)",
	"(0,0) (0,2) (2,2) (2,0)",
	"(0,0) (1,0) (2,0) (2,2) (0,2)",
	"(0,0) (2,0) (2,0) (2,2) (0,2)",
	"(0,0) (2,0) (2,2) (0,2) (0,0)",
	"(0,0) (2,0) (2,2) (0,2) (0,1)",
	"(0,0) (2,0) (2,1) (0,2)",
	"(0,0) (1,0) (2,0)",
	"(0,0) (0,0) (0,0)",
	"(0,0) (2,0) (0,2) (2,2)",
	"(0,0) (2,0) (1,1) (2,2) (0,2)",
	"(0,0) (2,0) (2,2) (0,2) (0,0) (2,0) (2,2) (0,2)",
	"(0,0) (3,1) (1,3)",
	"(0,0) (1r,1r) (-1,0) (1r,-1r) (0,1)",
}

func TestValidPolygon(t *testing.T) {
	for _, s := range polygonTexts {
		if !impl.ValidPolygon(mustPoints(t, s)) {
			t.Errorf("ValidPolygon of %s is false", s)
		}
	}
	for _, s := range wrongPolygonTexts {
		if impl.ValidPolygon(mustPoints(t, s)) {
			t.Errorf("ValidPolygon of %s is true", s)
		}
	}
	for _, list := range somePolygons(t, 60) {
		for _, variant := range append(listsLike(list), list) {
			if got, want := impl.ValidPolygon(variant), validPolygonOracle(variant); got != want {
				t.Errorf("ValidPolygon(%v) is %v", variant, got)
			}
		}
	}
}

func TestSamePolygon(t *testing.T) {
	square, diamond := mustPoints(t, polygonTexts[0]), mustPoints(t, polygonTexts[1])
	wrong := []impl.Point{{X: impl.Num{A: 1 << 62, K: -5}}}
	for i, v := range []struct {
		a, b []impl.Point
		want bool
	}{
		{square, square, true}, {square, slices.Clone(square), true}, {square, diamond, false}, {square, square[:3], false}, {square[1:], square[:3], false},
		{nil, nil, true}, {nil, []impl.Point{}, true}, {[]impl.Point{}, nil, true}, {nil, square, false}, {wrong, slices.Clone(wrong), true},
		{wrong, []impl.Point{{X: impl.Num{A: 1 << 62, K: -6}}}, false}, {[]impl.Point{{X: impl.Num{A: 2, K: 1}}}, []impl.Point{{X: impl.Num{A: 1}}}, false},
		{make([]impl.Point, 100), make([]impl.Point, 100), true}, {make([]impl.Point, 100), make([]impl.Point, 101), false},
	} {
		if impl.SamePolygon(v.a, v.b) != v.want || impl.SamePolygon(v.b, v.a) != v.want {
			t.Errorf("SamePolygon of pair %d is not %v", i, v.want)
		}
	}
}

func TestNormalPolygon(t *testing.T) {
	for _, v := range []struct{ list, want string }{
		{"(1,1) (0,1) (0,0) (1,0)", "(0,0) (1,0) (1,1) (0,1)"},
		{"(1,1) (1,0) (0,0) (0,1)", "(0,0) (1,0) (1,1) (0,1)"},
		{"(0,0) (1,0) (1,1) (0,1)", "(0,0) (1,0) (1,1) (0,1)"},
		{"(2,0) (0,2) (0,0)", "(0,0) (2,0) (0,2)"},
		{"(0,2) (2,0) (0,0)", "(0,0) (2,0) (0,2)"},
		{"(1,1) (0,0) (0,1) (1,0)", ""},
	} {
		checkNormalPolygon(t, mustPoints(t, v.list), mustPoints(t, v.want), v.want != "")
	}
	for _, s := range wrongPolygonTexts {
		want, ok := normalPolygonOracle(mustPoints(t, s))
		checkNormalPolygon(t, mustPoints(t, s), want, ok)
	}
	for _, list := range somePolygons(t, 60) {
		for _, variant := range append(listsLike(list), list) {
			want, ok := normalPolygonOracle(variant)
			checkNormalPolygon(t, variant, want, ok)
		}
	}
}

func checkNormalPolygon(t *testing.T, list, want []impl.Point, ok bool) {
	t.Helper()
	got, gotOk := impl.NormalPolygon(list)
	if !slices.Equal(got, want) || gotOk != ok {
		t.Errorf("NormalPolygon(%v) is %v, %v, not %v, %v", list, got, gotOk, want, ok)
	}
}

func TestInPolygon(t *testing.T) {
	for _, v := range []struct {
		list int
		p    string
		want int64
	}{
		{0, "(1,1)", 1}, {0, "(0,0)", 0}, {0, "(2,2)", 0}, {0, "(1r,2)", 0}, {0, "(0,1/1024)", 0}, {0, "(1/1024,1/1024)", 1}, {0, "(1,3r)", -1}, {0, "(3,2)", -1}, {0, "(-1/1024,0)", -1},
		{0, "(2,-1)", -1}, {0, "(2,131072)", -1}, {1, "(1,1)", 1}, {1, "(1/2,1/2)", 0}, {1, "(0,0)", -1}, {1, "(511/1024,1/2)", -1}, {1, "(513/1024,1/2)", 1}, {1, "(-1,2)", -1},
		{8, "(131072,131072)", 0}, {8, "(131072+1r,0)", -1}, {8, "(0,0)", 1}, {8, "(-131072,17)", 0}, {15, "(80782r,-114243+80782r)", 0}, {15, "(1,0)", 1}, {15, "(0,0)", 0},
		{17, "(1,1/2)", 1}, {17, "(-1/1024,1/2)", -1}, {17, "(0,1/2)", 0}, {17, "(0,2)", -1},
	} {
		list := mustPoints(t, polygonTexts[v.list])
		if got := impl.InPolygon(list, mustPoint(t, v.p)); got != v.want {
			t.Errorf("%s is at the place %d of %s", v.p, got, polygonTexts[v.list])
		}
	}
}

func TestCutPolygon(t *testing.T) {
	square, diamond := polygonTexts[0], polygonTexts[1]
	for _, v := range []struct {
		list, l, left, right string
		code                 int64
	}{
		{square, "2@0", "(0,0) (2,2) (0,2)", "(0,0) (2,0) (2,2)", impl.OK},
		{square, "1@0", "(0,0) (2,-2+2r) (2,2) (0,2)", "(0,0) (2,0) (2,-2+2r)", impl.OK},
		{square, "4@-1", "(0,0) (1,0) (1,2) (0,2)", "(1,0) (2,0) (2,2) (1,2)", impl.OK},
		{square, "0@2", "", square, impl.OK},
		{square, "0@0", square, "", impl.OK},
		{square, "4@0", "", square, impl.OK},
		{square, "4@-2", square, "", impl.OK},
		{square, "4@-5", square, "", impl.OK},
		{square, "6@0", "", square, impl.OK},
		{square, "6@-4", square, "", impl.OK},
		{square, "2@2", "", square, impl.OK},
		{square, "2@131072", "", square, impl.OK},
		{square, "6@-1/1024", "(0,0) (1/1024,0) (0,1/1024)", "(0,1/1024) (1/1024,0) (2,0) (2,2) (0,2)", impl.OK},
		{diamond, "4@-1", "(0,1) (1,0) (1,2)", "(1,0) (2,1) (1,2)", impl.OK},
		{diamond, "2@1/1024", "", "", impl.ErrRange},
		{diamond, "2@1/512", "(0,1) (511/1024,513/1024) (1535/1024,1537/1024) (1,2)", "(511/1024,513/1024) (1,0) (2,1) (1535/1024,1537/1024)", impl.OK},
		{diamond, "2@1", "", diamond, impl.OK},
		{diamond, "2@-1025/1024", diamond, "", impl.OK},
		{polygonTexts[8], "2@0", "(-131072,-131072) (131072,131072) (-131072,131072)", "(-131072,-131072) (131072,-131072) (131072,131072)", impl.OK},
		{polygonTexts[8], "1@0", "(-131072,131072-131072r) (131072,-131072+131072r) (131072,131072) (-131072,131072)", "(-131072,-131072) (131072,-131072) (131072,-131072+131072r) (-131072,131072-131072r)", impl.OK},
		{polygonTexts[8], "1@1", "", "", impl.ErrRange},
		{polygonTexts[9], "2@1", "", "", impl.ErrRange},
		{polygonTexts[9], "2@2", "(-131072,0) (-65537,-65535) (65535,65537) (0,131072)", "(-65537,-65535) (0,-131072) (131072,0) (65535,65537)", impl.OK},
	} {
		left, right, code := impl.CutPolygon(mustPoints(t, v.list), mustLine(t, v.l))
		if code != v.code || !slices.Equal(left, mustPoints(t, v.left)) || !slices.Equal(right, mustPoints(t, v.right)) {
			t.Errorf("%s is cut by %s into %q, %q, %d", v.list, v.l, impl.PolygonText(left), impl.PolygonText(right), code)
		}
	}
}

func TestIntersectAndOverlapPolygons(t *testing.T) {
	square, diamond := polygonTexts[0], polygonTexts[1]
	for _, v := range []struct {
		a, b, want string
		code       int64
		overlap    bool
	}{
		{square, square, square, impl.OK, true},
		{square, diamond, diamond, impl.OK, true},
		{diamond, polygonTexts[2], "(1,0) (2,1) (1,2)", impl.OK, true},
		{square, "(2,0) (4,0) (4,2) (2,2)", "", impl.OK, false},
		{square, "(2,1) (4,1) (4,3) (2,3)", "", impl.OK, false},
		{square, "(2,2) (4,2) (4,4) (2,4)", "", impl.OK, false},
		{square, "(1,3) (2,2) (3,3) (2,4)", "", impl.OK, false},
		{square, "(-1,-1) (1,-1) (-1,1)", "", impl.OK, false},
		{square, "(5,5) (6,5) (6,6)", "", impl.OK, false},
		{square, "(-3,1) (5,1) (5,3/2) (-3,3/2)", "(0,1) (2,1) (2,3/2) (0,3/2)", impl.OK, true},
		{square, "(1/1024,-1) (1/512,-1) (1/512,3) (1/1024,3)", "(1/1024,0) (1/512,0) (1/512,2) (1/1024,2)", impl.OK, true},
		{"(0,0) (2,0) (2,2)", "(0,0) (2,2) (0,2)", "", impl.OK, false},
		{"(0,0) (2,0) (2,2)", "(0,0) (2,-2+2r) (2,2) (0,2)", "(0,0) (2,-2+2r) (2,2)", impl.OK, true},
		{diamond, "(-2,-2047/1024) (3,3073/1024) (-2,3073/1024)", "", impl.ErrRange, true},
		{diamond, "(3/4,769/1024) (5/4,1281/1024) (3/4,1281/1024)", "(3/4,769/1024) (5/4,1281/1024) (3/4,1281/1024)", impl.OK, true},
		{polygonTexts[8], polygonTexts[9], polygonTexts[9], impl.OK, true},
		{polygonTexts[8], polygonTexts[10], polygonTexts[10], impl.OK, true},
		{polygonTexts[9], polygonTexts[10], "", impl.OK, false},
	} {
		a, b := mustPoints(t, v.a), mustPoints(t, v.b)
		for _, pair := range [][2][]impl.Point{{a, b}, {b, a}} {
			got, code := impl.IntersectPolygons(pair[0], pair[1])
			if code != v.code || !slices.Equal(got, mustPoints(t, v.want)) {
				t.Errorf("%s and %s have the intersection %q, %d", v.a, v.b, impl.PolygonText(got), code)
			}
			if impl.OverlapPolygons(pair[0], pair[1]) != v.overlap {
				t.Errorf("%s and %s: OverlapPolygons is not %v", v.a, v.b, v.overlap)
			}
		}
	}
}

func TestCrossesPolygon(t *testing.T) {
	square, diamond := polygonTexts[0], polygonTexts[1]
	for _, v := range []struct {
		list, p, q string
		want       bool
	}{
		{square, "(0,0)", "(2,2)", true}, {square, "(0,0)", "(2,0)", false}, {square, "(-3,1)", "(0,1)", false}, {square, "(-3,1)", "(1/1024,1)", true}, {square, "(-3,1)", "(5,1)", true},
		{square, "(1,1)", "(3/2,1)", true}, {square, "(1,1)", "(1,1)", false}, {square, "(1,1)", "(3,2)", false}, {square, "(2,1)", "(3,1)", false}, {square, "(2,1)", "(1,1)", true},
		{square, "(3,1)", "(4,1)", false}, {square, "(-2,-2)", "(-1,-1)", false}, {square, "(-2,-2)", "(0,0)", false}, {square, "(-2,-2)", "(4,4)", true}, {square, "(3,1)", "(1,3)", false},
		{square, "(-1,3)", "(3,-1)", true}, {square, "(0,3)", "(0,-1)", false}, {square, "(1/1024,3)", "(1/1024,-1)", true}, {square, "(-1,0)", "(5,0)", false}, {square, "(0,0)", "(2,-2+2r)", true},
		{square, "(0,2)", "(2,2)", false}, {square, "(1/2,2)", "(1,2)", false}, {square, "(0,0)", "(131072,131072)", true}, {square, "(131072,131072)", "(2,2)", false},
		{diamond, "(0,0)", "(1,1)", true}, {diamond, "(0,0)", "(1/2,1/2)", false}, {diamond, "(0,0)", "(513/1024,513/1024)", true}, {diamond, "(0,0)", "(0,2)", false}, {diamond, "(0,1)", "(1,0)", false},
		{diamond, "(-1,2)", "(3,-2)", false}, {diamond, "(0,2)", "(2,0)", true},
		{polygonTexts[8], "(-131072,131072)", "(131072,-131072)", true}, {polygonTexts[8], "(-131072-131072r,0)", "(131072+131072r,0)", true}, {polygonTexts[8], "(131072,0)", "(131072+131072r,0)", false},
		{polygonTexts[13], "(-1r,1/1024)", "(1,1/1024)", false}, {hexadecagonText, "(0,0)", "(0,1)", false}, {hexadecagonText, "(-1,1/2)", "(131072,1/2)", true},
	} {
		list, p, q := mustPoints(t, v.list), mustPoint(t, v.p), mustPoint(t, v.q)
		if impl.CrossesPolygon(list, p, q) != v.want || impl.CrossesPolygon(list, q, p) != v.want {
			t.Errorf("%s and the segment from %s to %s: CrossesPolygon is not %v", v.list, v.p, v.q, v.want)
		}
	}
}

func TestSquarePaper(t *testing.T) {
	for _, side := range []int64{1, 2, 3, 999, 1000} {
		far := impl.Num{A: side}
		want := []impl.Point{{}, {X: far}, {X: far, Y: far}, {Y: far}}
		if got, ok := impl.SquarePaper(side); !ok || !slices.Equal(got, want) || !impl.ValidPolygon(got) {
			t.Errorf("SquarePaper(%d) is %v, %v", side, got, ok)
		}
	}
	for _, side := range append(extremes(), 0, 1001, 1<<32+1) {
		if got, ok := impl.SquarePaper(side); (side < 1 || side > 1000) && (ok || len(got) != 0) {
			t.Errorf("SquarePaper(%d) is %v, %v", side, got, ok)
		}
	}
}

func TestPolygonTexts(t *testing.T) {
	for _, s := range polygonTexts {
		list, ok := impl.ReadPolygon(s)
		if !ok || !slices.Equal(list, mustPoints(t, s)) || impl.PolygonText(list) != s {
			t.Errorf("%q is read as %v, %v, and its text is %q", s, list, ok, impl.PolygonText(list))
		}
	}
	for _, s := range wrongPolygonTexts {
		if list, ok := impl.ReadPolygon(s); ok || len(list) != 0 || impl.PolygonText(mustPoints(t, s)) != "" {
			t.Errorf("ReadPolygon(%q) is %v, %v, and its text is %q", s, list, ok, impl.PolygonText(mustPoints(t, s)))
		}
	}
	for _, s := range []string{
		" ", "  ", " (0,0) (2,0) (2,2)", "(0,0) (2,0) (2,2) ", "(0,0)  (2,0) (2,2)", "(0,0)\t(2,0) (2,2)", "(0,0)\n(2,0) (2,2)", "(0,0) (2,0) (2,2)\n", "(0,0),(2,0),(2,2)", "(0,0)(2,0)(2,2)",
		"(0,0) (2,0) (2,2/1)", "(0,0) (2,0) (2,02)", "(0,0) (2,0) (2,2", "(0,0) (2,0) x", "(0,0) (131073,0) (131073,131073)", "\xff (0,0) (2,0) (2,2)",
	} {
		if list, ok := impl.ReadPolygon(s); ok || len(list) != 0 {
			t.Errorf("ReadPolygon(%q) is %v, %v", s, list, ok)
		}
	}
}

func TestInvalidPolygonsAreRejected(t *testing.T) {
	good := mustPoints(t, polygonTexts[0])
	bad := [][]impl.Point{nil, {}, make([]impl.Point, 3), make([]impl.Point, 16), make([]impl.Point, 17), make([]impl.Point, 5000), slices.Repeat(good, 5)}
	for _, s := range wrongPolygonTexts {
		bad = append(bad, mustPoints(t, s))
	}
	for i, p := range invalidPoints() {
		list := slices.Clone(good)
		list[i%4] = p
		bad = append(bad, list)
	}
	for _, list := range bad {
		checkPolygonRejected(t, list, good)
	}
	for i, p := range invalidPoints() {
		if q := good[i%4]; impl.InPolygon(good, p) != -1 || impl.CrossesPolygon(good, p, q) || impl.CrossesPolygon(good, q, p) || impl.CrossesPolygon(good, p, p) {
			t.Errorf("the invalid point %v is in a polygon or crosses it", p)
		}
	}
	for _, l := range invalidLines() {
		if left, right, code := impl.CutPolygon(good, l); len(left) != 0 || len(right) != 0 || code != impl.ErrInvalid {
			t.Errorf("the invalid line %v cuts a polygon into %v, %v, %d", l, left, right, code)
		}
	}
}

func checkPolygonRejected(t *testing.T, bad, good []impl.Point) {
	t.Helper()
	inside := impl.Point{X: impl.Num{A: 1}, Y: impl.Num{A: 1}}
	left, right, code := impl.CutPolygon(bad, impl.Line{Dir: 2})
	if len(left) != 0 || len(right) != 0 || code != impl.ErrInvalid {
		t.Errorf("CutPolygon of %v is %v, %v, %d", bad, left, right, code)
	}
	for _, pair := range [][2][]impl.Point{{bad, good}, {good, bad}, {bad, bad}} {
		if common, code := impl.IntersectPolygons(pair[0], pair[1]); len(common) != 0 || code != impl.ErrInvalid || impl.OverlapPolygons(pair[0], pair[1]) {
			t.Errorf("IntersectPolygons of %v is %v, %d", pair, common, code)
		}
	}
	if impl.ValidPolygon(bad) || impl.InPolygon(bad, inside) != -1 || impl.InPolygon(bad, impl.Point{}) != -1 || impl.CrossesPolygon(bad, impl.Point{}, inside) || impl.PolygonText(bad) != "" {
		t.Errorf("%v is treated as a polygon", bad)
	}
}
