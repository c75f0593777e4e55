package tests

import (
	"math"
	"slices"
	"testing"

	"loop.example/g00857/impl"
)

// insideTexts are patterns in which a face is not bounded by a convex polygon.
var insideTexts = []string{
	"B (0,0) (3,0) (3,3) (0,3) (0,0); M (0,0) (1,1)",
	"B (0,0) (3,0) (3,3) (0,3) (0,0); M (0,1) (1,1)",
	"B (0,0) (3,0) (3,3) (0,3) (0,0); M (0,0) (1,1); V (3,3) (2,2)",
	"B (0,0) (3,0) (3,3) (0,3) (0,0); V (0,0) (3,3); O (1,1) (2,1)",
	"B (0,0) (3,0) (3,3) (0,3) (0,0); V (0,1) (1,1) (1,0)",
	"B (0,0) (3,0) (3,3) (0,3) (0,0); V (0,1) (1,1) (1,0); O (1,1) (2,1)",
	"B (0,0) (3,0) (3,3) (0,3) (0,0); V (0,1) (1,1) (1,0); O (1,1) (2,2)",
	"B (0,0) (3,0) (3,3) (0,3) (0,0); V (0,1) (1,1) (2,0)",
	"B (0,0) (3,0) (3,3) (0,3) (0,0); O (1,0) (1,1) ((2-1r)/2,(2+1r)/2)",
	"B (0,0) (3,0) (3,3) (0,3) (0,0); M (0,0) (1,1) (2,1) (2,2) (1,2) (1,1)",
	"B (0,0) (3,0) (3,3) (0,3) (0,0); M (0,0) (2,-2+2r) (2,2) (-2+2r,2) (0,0)",
	"B (0,0) (3,0) (3,3) (0,3) (0,0); V (0,1) (3,1); M (1,1) (1,2) (2,2) (2,1)",
	"B (0,0) (3,0) (3,3) (0,3) (0,0); V (0,1) (3,1); M (1,1) (1,2) (2,2)",
	"B (0,0) (4,0) (4,4) (0,4) (0,0); O (0,2) (4,2); O (1,2) (2,3) (3,2) (2,1) (1,2); O (2,3) (2,4)",
}

func TestFacesOfASquareWithADiagonal(t *testing.T) {
	p := written(t, "(0,0) (0,2) (2,0) (2,2)", "0-1B 0-2B 0-3V 1-3B 2-3B")
	faces, code := impl.FacesOf(p)
	if code != impl.OK || len(faces) != 2 || !slices.Equal(faces[0], mustPoints(t, "(0,0) (2,0) (2,2)")) || !slices.Equal(faces[1], mustPoints(t, "(0,0) (2,2) (0,2)")) {
		t.Errorf("the faces are %v, %d", faces, code)
	}
	joints, code := impl.NeighboursOf(p)
	want := []impl.Joint{{A: 0, B: 1, P: mustPoint(t, "(0,0)"), Q: mustPoint(t, "(2,2)"), Kind: impl.KdValley}}
	if code != impl.OK || !slices.Equal(joints, want) {
		t.Errorf("the joints are %v, %d", joints, code)
	}
}

func TestFacesOf(t *testing.T) {
	for _, v := range []struct {
		text  string
		faces []string
	}{
		{"B (0,0) (1,0) (1,1) (0,1) (0,0)", []string{"(0,0) (1,0) (1,1) (0,1)"}},
		{"B (0,0) (1,0) (2,0) (2,2) (0,2) (0,0)", []string{"(0,0) (2,0) (2,2) (0,2)"}},
		{"B (0,0) (1,0) (2,0) (2,2) (0,2) (0,0); V (0,0) (1,1) (2,2)", []string{"(0,0) (2,0) (2,2)", "(0,0) (2,2) (0,2)"}},
		{"B (0,0) (2,0) (2,2) (0,2) (0,0); V (0,1) (2,1); O (1,1) (1,2)", []string{"(0,0) (2,0) (2,1) (0,1)", "(0,1) (1,1) (1,2) (0,2)", "(1,1) (2,1) (2,2) (1,2)"}},
		{"B (0,0) (4,0) (4,4) (0,4) (0,0); V (2,0) (4,2) (2,4) (0,2) (2,0)", []string{"(0,0) (2,0) (0,2)", "(0,2) (2,0) (4,2) (2,4)", "(0,2) (2,4) (0,4)", "(2,0) (4,0) (4,2)", "(2,4) (4,2) (4,4)"}},
		{"B (0,0) (2,0) (2,2) (0,2) (0,0); M (1,0) (0,1); O (0,0) (1/2,1/2)", []string{"(0,0) (1/2,1/2) (0,1)", "(0,0) (1,0) (1/2,1/2)", "(0,1) (1,0) (2,0) (2,2) (0,2)"}},
	} {
		faces, code := impl.FacesOf(drawn(t, v.text))
		if code != impl.OK || len(faces) != len(v.faces) {
			t.Fatalf("the faces of %q are %v, %d", v.text, faces, code)
		}
		for i, face := range faces {
			if !slices.Equal(face, mustPoints(t, v.faces[i])) {
				t.Errorf("face %d of %q is %v", i, v.text, face)
			}
		}
	}
}

func TestNeighboursOf(t *testing.T) {
	for _, v := range []struct {
		text   string
		joints []string // the ends
		ends   [][3]int64
	}{
		{"B (0,0) (1,0) (1,1) (0,1) (0,0)", nil, nil},
		{"B (0,0) (2,0) (2,2) (0,2) (0,0); M (0,1) (1,1); V (1,1) (2,1)", []string{"(0,1) (1,1)", "(1,1) (2,1)"}, [][3]int64{{0, 1, 2}, {0, 1, 3}}},
		{"B (0,0) (2,0) (2,2) (0,2) (0,0); V (0,1) (2,1); O (1,1) (1,2)", []string{"(0,1) (1,1)", "(1,1) (2,1)", "(1,1) (1,2)"}, [][3]int64{{0, 1, 3}, {0, 2, 3}, {1, 2, 4}}},
		{"B (0,0) (4,0) (4,4) (0,4) (0,0); V (2,0) (4,2) (2,4); M (2,4) (0,2); O (0,2) (2,0)", []string{"(0,2) (2,0)", "(0,2) (2,4)", "(2,0) (4,2)", "(2,4) (4,2)"}, [][3]int64{{0, 1, 4}, {1, 2, 2}, {1, 3, 3}, {1, 4, 3}}},
	} {
		joints, code := impl.NeighboursOf(drawn(t, v.text))
		if code != impl.OK || len(joints) != len(v.joints) {
			t.Fatalf("the joints of %q are %v, %d", v.text, joints, code)
		}
		for i, j := range joints {
			ends := mustPoints(t, v.joints[i])
			if want := (impl.Joint{A: v.ends[i][0], B: v.ends[i][1], P: ends[0], Q: ends[1], Kind: v.ends[i][2]}); j != want {
				t.Errorf("joint %d of %q is %v, not %v", i, v.text, j, want)
			}
		}
	}
}

// crossText has nine points, and four faces around point 4.
const crossText = "B (0,0) (2,0) (2,2) (0,2) (0,0); V (1,0) (1,2); M (0,1) (2,1)"

func TestFaceAt(t *testing.T) {
	p := drawn(t, crossText)
	for _, v := range []struct {
		q    string
		want int64
	}{
		{"(1/2,1/2)", 0}, {"(1/2,3/2)", 1}, {"(3/2,1/2)", 2}, {"(3/2,3/2)", 3}, {"(1023/1024,1023/1024)", 0}, {"(1025/1024,1023/1024)", 2}, {"(1/1024,2047/1024)", 1}, {"(1r,1r)", 3},
		{"(1,1)", -1}, {"(0,0)", -1}, {"(1/2,1)", -1}, {"(1/2,0)", -1}, {"(2,2)", -1}, {"(3,1/2)", -1}, {"(1/2,-1)", -1}, {"(131072,131072)", -1}, {"(-1/1024,1/2)", -1},
	} {
		got, code := impl.FaceAt(p, mustPoint(t, v.q))
		if want := v.want >= 0; want && (got != v.want || code != impl.OK) || !want && (got != 0 || code != impl.ErrNotFound) {
			t.Errorf("the face at %s is %d, %d, not %d", v.q, got, code, v.want)
		}
	}
	patterns := []impl.Pattern{p, {}, drawn(t, insideTexts[0]), gridPattern(5, 5)}
	for _, q := range invalidPoints() {
		for _, p := range patterns {
			if got, code := impl.FaceAt(p, q); got != 0 || code != impl.ErrInvalid {
				t.Errorf("the face at the invalid point %v is %d, %d", q, got, code)
			}
		}
	}
}

func TestFacesAround(t *testing.T) {
	p := drawn(t, crossText)
	if got, code := impl.FacesAround(p, 4); code != impl.OK || !slices.Equal(got, []int64{3, 1, 0, 2}) {
		t.Errorf("the faces around the middle are %v, %d", got, code)
	}
	for _, k := range append(wildDirections(), 4) {
		want := int64(impl.ErrRange)
		if k >= 0 && k < 9 {
			want = impl.ErrState
		}
		if got, code := impl.FacesAround(p, k); k != 4 && (len(got) != 0 || code != want) {
			t.Errorf("the faces around %d are %v, %d, not %d", k, got, code, want)
		}
	}
	for _, v := range []struct {
		text string
		k    int64
		want []int64
	}{
		{"B (0,0) (2,0) (2,2) (0,2) (0,0); V (0,1) (1,1) (2,1)", 3, []int64{1, 0}},
		{"B (0,0) (2,0) (2,2) (0,2) (0,0); V (1,0) (1,1) (1,2)", 3, []int64{0, 1}},
		{"B (0,0) (2,0) (2,2) (0,2) (0,0); V (0,1) (2,1); O (1,1) (1,2)", 3, []int64{2, 1, 0}},
		{"B (0,0) (2,0) (2,2) (0,2) (0,0); V (0,1) (2,1); O (1,1) (1,0)", 4, []int64{1, 0, 2}},
	} {
		if got, code := impl.FacesAround(drawn(t, v.text), v.k); code != impl.OK || !slices.Equal(got, v.want) {
			t.Errorf("the faces around %d of %q are %v, %d", v.k, v.text, got, code)
		}
	}
}

func TestColourFaces(t *testing.T) {
	for _, v := range []struct {
		text string
		want []int64
	}{
		{"B (0,0) (1,0) (1,1) (0,1) (0,0)", []int64{0}},
		{"B (0,0) (1,0) (1,1) (0,1) (0,0); V (0,0) (1,1)", []int64{0, 1}},
		{crossText, []int64{0, 1, 1, 0}},
		{"B (0,0) (4,0) (4,4) (0,4) (0,0); V (1,0) (1,4); M (2,0) (2,4); V (3,0) (3,4)", []int64{0, 1, 0, 1}},
		{"B (0,0) (4,0) (4,4) (0,4) (0,0); V (2,0) (4,2) (2,4) (0,2) (2,0)", []int64{0, 1, 0, 0, 0}},
		{"B (0,0) (2,0) (2,2) (0,2) (0,0); V (0,1) (2,1); O (1,1) (1,2)", nil},
		{"B (0,0) (2,0) (2,2) (0,2) (0,0); V (0,0) (1,1) (2,2); O (1,1) (2,0)", nil},
		{"B (0,0) (4,0) (4,4) (0,4) (0,0); V (2,0) (2,4); M (3,0) (3,4); O (3,2) (4,2)", nil},
	} {
		got, code := impl.ColourFaces(drawn(t, v.text))
		if v.want != nil && code != impl.OK || v.want == nil && code != impl.ErrNotFlat || !slices.Equal(got, v.want) {
			t.Errorf("the colours of %q are %v, %d, not %v", v.text, got, code, v.want)
		}
	}
}

func TestPathOfFaces(t *testing.T) {
	cross, split, grid := drawn(t, crossText), drawn(t, "B (0,0) (2,0) (2,2) (0,2) (0,0); M (0,1) (1,1); V (1,1) (2,1)"), gridPattern(4, 4)
	for _, v := range []struct {
		p    impl.Pattern
		a, b int64
		want []int64
	}{
		{cross, 0, 3, []int64{0, 2}}, {cross, 3, 0, []int64{2, 0}}, {cross, 1, 2, []int64{0, 1}}, {cross, 2, 1, []int64{1, 0}}, {cross, 0, 1, []int64{0}}, {cross, 3, 2, []int64{3}}, {cross, 0, 0, nil}, {cross, 3, 3, nil},
		{split, 0, 1, []int64{0}}, {split, 1, 0, []int64{0}}, {split, 1, 1, nil},
		{grid, 0, 15, []int64{0, 2, 4, 6, 13, 20}}, {grid, 15, 0, []int64{20, 13, 6, 4, 2, 0}}, {grid, 5, 10, []int64{9, 12}}, {grid, 10, 5, []int64{12, 9}}, {grid, 12, 3, []int64{15, 8, 1, 0, 2, 4}}, {grid, 3, 12, []int64{4, 2, 0, 1, 8, 15}},
	} {
		if got, code := impl.PathOfFaces(v.p, v.a, v.b); code != impl.OK || !slices.Equal(got, v.want) {
			t.Errorf("the way from %d to %d is %v, %d, not %v", v.a, v.b, got, code, v.want)
		}
	}
	for _, k := range wildDirections() {
		if k >= 0 && k < 4 {
			continue
		}
		for _, ends := range [][2]int64{{k, 0}, {3, k}, {k, k}, {k, -1}, {4, k}, {math.MinInt64, k}} {
			if got, code := impl.PathOfFaces(cross, ends[0], ends[1]); len(got) != 0 || code != impl.ErrRange {
				t.Errorf("the way from %d to %d is %v, %d", ends[0], ends[1], got, code)
			}
		}
	}
}

func TestAreaOf(t *testing.T) {
	for _, v := range []struct{ list, want string }{
		{polygonTexts[0], "4"}, {polygonTexts[1], "2"}, {polygonTexts[3], "2"}, {"(0,0) (1,0) (0,1)", "1/2"}, {"(0,0) (1,0) (1,-1+1r)", "(-1+1r)/2"}, {"(0,0) (1,0) (2+1r,1) (1+1r,1)", "1"},
		{"(0,0) (1/32,0) (1/32,1/32) (0,1/32)", "1/1024"}, {"(0,0) (1/32,0) (1/32,1/32)", ""}, {"(0,0) (1/16,0) (1/16,1/16)", "1/512"}, {"(0,0) (1/1024,0) (1/1024,1) (0,1)", "1/1024"}, {"(0,0) (1/1024,0) (1/1024,1/2) (0,1/2)", ""},
		{"(0,0) (512,0) (512,256) (0,256)", "131072"}, {"(0,0) (512,0) (512,257) (0,257)", ""}, {"(0,0) (512,0) (512,512)", "131072"}, {"(0,0) (514,0) (514,514)", ""}, {"(-131072,0) (-131071,0) (-131071,131072) (-131072,131072)", "131072"},
		{"(-131072,0) (-131071,0) (-131071,131072r) (-131072,131072r)", "131072r"}, {"(0,-1/2) (131072,-1/2) (131072,1/2) (0,1/2)", "131072"}, {"(0,-1/2) (131072+131072r,-1/2) (131072+131072r,1/2) (0,1/2)", "131072+131072r"},
		{"(0,-1) (131072,-1) (131072,1) (0,1)", ""}, {polygonTexts[8], ""}, {polygonTexts[9], ""}, {polygonTexts[14], ""}, {hexadecagonText, "15+8r"},
	} {
		list := mustPoints(t, v.list)
		want, wantOk := areaNumOracle(list)
		text, textOk := textOracle(v.want)
		if want != text || wantOk != textOk && v.want != "" {
			t.Errorf("the area of %s is %v, %v", v.list, want, wantOk)
		}
		if got, ok := impl.AreaOf(list); got != want || ok != wantOk {
			t.Errorf("the area of %s is %v, %v, not %v, %v", v.list, got, ok, want, wantOk)
		}
	}
	for side := range int64(1000) {
		square, _ := impl.SquarePaper(side + 1)
		want, wantOk := areaNumOracle(square)
		if got, ok := impl.AreaOf(square); got != want || ok != wantOk || ok != (side < 362) {
			t.Errorf("the area of the square with the side %d is %v, %v", side+1, got, ok)
		}
	}
}

// areaNumOracle returns half of areaOracle, if it is a valid number.
func areaNumOracle(list []impl.Point) (impl.Num, bool) {
	return areaOracle(exactRing(list)).product(exactParts(1, 0, 1)).valid()
}

func TestAreaOfInvalidPolygons(t *testing.T) {
	bad := [][]impl.Point{nil, {}, make([]impl.Point, 3), make([]impl.Point, 17), make([]impl.Point, 100000)}
	for _, s := range wrongPolygonTexts {
		bad = append(bad, mustPoints(t, s))
	}
	for i, q := range invalidPoints() {
		list := mustPoints(t, polygonTexts[0])
		list[i%4] = q
		bad = append(bad, list)
	}
	for _, list := range bad {
		if got, ok := impl.AreaOf(list); ok || got != (impl.Num{}) {
			t.Errorf("the area of %v is %v, %v", list[:min(len(list), 20)], got, ok)
		}
	}
}

func TestErrorsOfFaces(t *testing.T) {
	t.Parallel()
	full := gridPattern(5, 5)
	loose := filledPattern(5, 5, 0)
	insertPoint(&loose, mustPoint(t, "(1/2,1/2)"))
	insertCrease(&loose, impl.Crease{From: 0, To: int64(slices.Index(loose.Points, mustPoint(t, "(1/2,1/2)"))), Kind: impl.KdOpen})
	invalid := gridPattern(5, 5)
	invalid.Creases[30].Kind = 5
	for _, v := range []struct {
		p    impl.Pattern
		code int64
	}{
		{full, impl.ErrFull}, {loose, impl.ErrGeometry}, {invalid, impl.ErrInvalid}, {impl.Pattern{}, impl.ErrInvalid},
		{gridPattern(6, 4), impl.OK}, {filledPattern(6, 4, 1), impl.ErrFull}, {filledPattern(4, 3, 12), impl.OK}, {gridPattern(12, 2), impl.OK}, {filledPattern(12, 2, 1), impl.ErrFull},
		{filledPattern(7, 3, 3), impl.OK}, {filledPattern(7, 3, 4), impl.ErrFull}, {filledPattern(7, 4, 3), impl.ErrFull}, {gridPattern(19, 1), impl.OK}, {filledPattern(19, 1, 5), impl.OK}, {filledPattern(19, 1, 6), impl.ErrFull},
		{gridPattern(20, 1), impl.ErrInvalid}, {sidePattern(40), impl.OK}, {sidePattern(41), impl.ErrInvalid}, {stripesPattern(17), impl.OK},
	} {
		checkFaces(t, v.p, v.code)
	}
	for _, text := range insideTexts {
		checkFaces(t, drawn(t, text), impl.ErrGeometry)
	}
	for _, v := range wrongPatterns {
		checkFaces(t, written(t, v.points, v.creases), impl.ErrInvalid)
	}
	for i, p := range wildPatterns() {
		if _, ok := patternOracle(p); !ok && i%5 == 0 {
			checkFaceErrors(t, p, impl.ErrInvalid)
		}
	}
}

// checkFaceErrors checks that all functions of the chapter return an error, whatever else is wrong.
func checkFaceErrors(t *testing.T, p impl.Pattern, want int64) {
	t.Helper()
	faces, code := impl.FacesOf(p)
	joints, jointsCode := impl.NeighboursOf(p)
	colours, coloursCode := impl.ColourFaces(p)
	if len(faces) != 0 || len(joints) != 0 || len(colours) != 0 || code != want || jointsCode != want || coloursCode != want {
		t.Errorf("%s has the faces %v, %d, the joints %v, %d and the colours %v, %d, not %d", patternText(p), faces, code, joints, jointsCode, colours, coloursCode, want)
	}
	for _, k := range []int64{math.MinInt64, -1, 0, 1, 4, 7, 39, 40, 1 << 32, math.MaxInt64} {
		around, code := impl.FacesAround(p, k)
		way, wayCode := impl.PathOfFaces(p, k, 0)
		back, backCode := impl.PathOfFaces(p, 0, k)
		if len(around) != 0 || len(way) != 0 || len(back) != 0 || code != want || wayCode != want || backCode != want {
			t.Errorf("for %d, %s has the faces %v, %d and the ways %v, %d and %v, %d, not %d", k, patternText(p), around, code, way, wayCode, back, backCode, want)
		}
	}
	for _, q := range []impl.Point{{}, {X: impl.Num{A: 1, K: 1}, Y: impl.Num{A: 1, K: 2}}, {X: impl.Num{A: 99}}} {
		if face, code := impl.FaceAt(p, q); face != 0 || code != want {
			t.Errorf("the face at %v of %s is %d, %d, not %d", q, patternText(p), face, code, want)
		}
	}
}
