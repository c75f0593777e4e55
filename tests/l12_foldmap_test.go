package tests

import (
	"fmt"
	"math"
	"slices"
	"strings"
	"testing"

	"loop.example/g00857/impl"
)

// mustMotions reads motions that are separated by `, `.
func mustMotions(t *testing.T, s string) []impl.Motion {
	t.Helper()
	var list []impl.Motion
	for _, word := range strings.Split(s, ", ") {
		list = append(list, mustMotion(t, word))
	}
	return list
}

func TestExampleOfFoldsFlat(t *testing.T) {
	half := drawn(t, "B (0,0) (2,0) (2,2) (0,2) (0,0); V (1,0) (1,2)")
	if _, code := impl.BadJoint(half); !impl.FoldsFlat(half) || code != impl.ErrNotFound {
		t.Errorf("a square with one crease has a bad joint: %d", code)
	}
	three := drawn(t, "B (0,0) (2,0) (2,2) (0,2) (0,0); V (0,1) (2,1); O (1,1) (1,2)")
	if _, code := impl.BadJoint(three); impl.FoldsFlat(three) || code != impl.OK {
		t.Errorf("a point with three creases has no bad joint: %d", code)
	}
}

func TestFoldPattern(t *testing.T) {
	for _, v := range []struct{ text, motions, points string }{
		{"B (0,0) (1,0) (1,1) (0,1) (0,0)", "r0 (0,0)", "(0,0) (0,1) (1,0) (1,1)"},
		{"B (5,5) (6,5) (7,5) (7,6) (5,6) (5,5)", "r0 (0,0)", "(5,5) (5,6) (6,5) (7,5) (7,6)"},
		{"B (0,0) (2,0) (2,2) (0,2) (0,0); V (1,0) (1,2)", "r0 (0,0), f4 (2,0)", "(0,0) (0,2) (1,0) (1,2) (0,0) (0,2)"},
		{"B (0,0) (2,0) (2,2) (0,2) (0,0); O (0,1/2) (2,1/2)", "r0 (0,0), f0 (0,1)", "(0,0) (0,1/2) (0,-1) (2,0) (2,1/2) (2,-1)"},
		{"B (0,0) (2,0) (2,2) (0,2) (0,0); M (0,0) (2,2)", "r0 (0,0), f2 (0,0)", "(0,0) (2,0) (2,0) (2,2)"},
		{"B (0,0) (2,0) (2,2) (0,2) (0,0); V (0,2) (2,0)", "r0 (0,0), f6 (2,2)", "(0,0) (0,2) (2,0) (0,0)"},
		{"B (1,1) (3,1) (3,3) (1,3) (1,1); V (1,1) (3,-1+2r); V (1,1) (-1+2r,3)", "r0 (0,0), r2 (2,0), f3 (1,1-1r)", "(1,1) (1,3) (-1+2r,3) (1,3) (3-2r,3) (1,1+2r)"},
		{crossText, "r0 (0,0), f0 (0,2), f4 (2,0), r4 (2,2)", "(0,0) (0,1) (0,0) (1,0) (1,1) (1,0) (0,0) (0,1) (0,0)"},
		{"B (0,0) (4,0) (4,4) (0,4) (0,0); V (1,0) (1,4); M (2,0) (2,4); O (3,0) (3,4)", "r0 (0,0), f4 (2,0), r0 (-2,0), f4 (4,0)", "(0,0) (0,4) (1,0) (1,4) (0,0) (0,4) (1,0) (1,4) (0,0) (0,4)"},
		{"B (0,0) (2,0) (2,2) (0,2) (0,0); M (0,1) (1,1); V (1,1) (2,1)", "r0 (0,0), f0 (0,2)", "(0,0) (0,1) (0,0) (1,1) (2,0) (2,1) (2,0)"},
		{"B (0,0) (4,0) (4,4) (0,4) (0,0); V (2,0) (4,2); O (2,4) (0,2)", "r0 (0,0), f2 (-2,2), f2 (2,-2)", "(0,0) (0,2) (2,2) (2,0) (2,4) (2,2) (4,2) (4,4)"},
	} {
		p := drawn(t, v.text)
		motions, code := impl.FoldPattern(p)
		if want := mustMotions(t, v.motions); code != impl.OK || !slices.Equal(motions, want) {
			t.Errorf("the motions of %q are %v, %d, not %v", v.text, motions, code, want)
		}
		points, code := impl.FoldPoints(p)
		if want := mustPoints(t, v.points); code != impl.OK || !slices.Equal(points, want) {
			t.Errorf("the places of the points of %q are %v, %d, not %v", v.text, points, code, want)
		}
		if bad, code := impl.BadJoint(p); bad != 0 || code != impl.ErrNotFound || !impl.FoldsFlat(p) || !impl.CheckMotions(p, motions) {
			t.Errorf("%q is said not to fold flat: %d, %d", v.text, bad, code)
		}
	}
}

func TestFoldTree(t *testing.T) {
	for _, v := range []struct {
		p    impl.Pattern
		want []int64
	}{
		{drawn(t, "B (0,0) (1,0) (1,1) (0,1) (0,0)"), nil},
		{drawn(t, "B (0,0) (2,0) (2,2) (0,2) (0,0); M (0,1) (1,1); V (1,1) (2,1)"), []int64{0}},
		{drawn(t, crossText), []int64{0, 1, 2}},
		{drawn(t, "B (0,0) (2,0) (2,2) (0,2) (0,0); V (0,1) (2,1); O (1,1) (1,2)"), []int64{0, 1}},
		{drawn(t, "B (0,0) (4,0) (4,4) (0,4) (0,0); V (2,0) (4,2) (2,4); M (2,4) (0,2); O (0,2) (2,0)"), []int64{0, 1, 2, 3}},
		// A search in depth would find 0, 2, 4, 6, 5.
		{gridPattern(2, 3), []int64{0, 1, 2, 3, 4}},
		{gridPattern(3, 3), []int64{0, 1, 2, 3, 6, 4, 8, 9}},
	} {
		if got, code := impl.FoldTree(v.p); code != impl.OK || !slices.Equal(got, v.want) {
			t.Errorf("the tree of %s is %v, %d, not %v", patternText(v.p), got, code, v.want)
		}
	}
}

func TestBadJoint(t *testing.T) {
	for _, v := range []struct {
		text string
		want int64
	}{
		{"B (0,0) (2,0) (2,2) (0,2) (0,0); V (0,1) (2,1); O (1,1) (1,2)", 2},
		{"B (0,0) (2,0) (2,2) (0,2) (0,0); V (0,0) (2,2); M (1,1) (2,0)", 2},
		{"B (0,0) (2,0) (2,2) (0,2) (0,0); V (0,1) (2,1); M (1,0) (1,2); O (1,1) (2,2)", 4},
		// There is a further bad joint, 6; a joint behind the bad one that is not bad; and 7 is bad, too.
		{"B (0,0) (4,0) (4,2) (0,2) (0,0); V (0,1) (4,1); M (0,0) (2,2); M (2,0) (4,2)", 4},
		{"B (0,0) (4,0) (4,4) (0,4) (0,0); V (0,1) (4,1); M (0,3) (4,3); O (2,1) (2,3)", 3},
		{"B (0,0) (4,0) (4,4) (0,4) (0,0); V (0,1) (4,1); M (0,3) (4,3); O (1,1) (1,3); O (3,1) (3,3)", 4},
	} {
		p := drawn(t, v.text)
		if m := foldingOracle(t, p); m.bad != v.want {
			t.Fatalf("the first bad joint of %q is %d, not %d", v.text, m.bad, v.want)
		}
		if bad, code := impl.BadJoint(p); bad != v.want || code != impl.OK || impl.FoldsFlat(p) {
			t.Errorf("the bad joint of %q is %d, %d, not %d", v.text, bad, code, v.want)
		}
		motions, code := impl.FoldPattern(p)
		points, pointsCode := impl.FoldPoints(p)
		if len(motions) != 0 || code != impl.ErrNotFlat || len(points) != 0 || pointsCode != impl.ErrNotFlat {
			t.Errorf("%q has the motions %v, %d and the places %v, %d", v.text, motions, code, points, pointsCode)
		}
	}
}

// wideTexts are patterns whose numbers leave the limits when they are folded, or nearly do.
var wideTexts = []struct {
	text         string
	code         int64 // of FoldPattern
	pointsCode   int64
	there, whole string // the motion of the way 0, and that of the way 0, 1, if there are these joints
}{
	{"B (0,0) (131072,0) (131072,131072) (0,131072) (0,0); V (65536,0) (65536,131072)", impl.OK, impl.OK, "f4 (131072,0)", ""},
	{"B (0,0) (131072,0) (131072,131072) (0,131072) (0,0); V (65537,0) (65537,131072)", impl.ErrRange, impl.ErrRange, "", ""},
	{"B (0,0) (131072,0) (131072,131072) (0,131072) (0,0); V (100000,0) (100000,131072)", impl.ErrRange, impl.ErrRange, "", ""},
	{"B (0,0) (131072,0) (131072,131072) (0,131072) (0,0); V (100000,0) (100000,131072); M (100010,0) (100010,131072)", impl.ErrRange, impl.ErrRange, "", "r0 (-20,0)"},
	{"B (0,0) (131072,0) (131072,131072) (0,131072) (0,0); V (0,65536) (131072,65536); M (0,65546) (131072,65546)", impl.OK, impl.OK, "f0 (0,131072)", "r0 (0,-20)"},
	{"B (-131072,0) (131072,0) (131072,10) (-131072,10) (-131072,0); V (0,0) (0,10)", impl.OK, impl.OK, "f4 (0,0)", ""},
	{"B (-131072,0) (131072,0) (131072,10) (-131072,10) (-131072,0); V (-1,0) (-1,10)", impl.OK, impl.ErrRange, "f4 (-2,0)", ""},
	{"B (-131072,0) (131072,0) (131072,10) (-131072,10) (-131072,0); V (-65536,0) (-65536,10)", impl.OK, impl.ErrRange, "f4 (-131072,0)", ""},
	{"B (-131072,0) (131072,0) (131072,10) (-131072,10) (-131072,0); V (-65537,0) (-65537,10)", impl.ErrRange, impl.ErrRange, "", ""},
	{"B (0,0) (1/1024,0) (1/1024,1/1024) (0,1/1024) (0,0); V (0,0) (1/1024,1/1024)", impl.OK, impl.OK, "f2 (0,0)", ""},
	{"B (0,0) (1/1024,0) (1/1024,1/1024) (0,1/1024) (0,0); V (0,0) (1/1024,(-1+1r)/1024)", impl.OK, impl.ErrRange, "f1 (0,0)", ""},
	{"B (0,0) (1/512,0) (1/512,1/512) (0,1/512) (0,0); V (0,0) (1/512,(-1+1r)/512)", impl.OK, impl.OK, "f1 (0,0)", ""},
	{"B (0,0) (1/512,0) (1/512,1/512) (0,1/512) (0,0); V (1/1024,0) (1/512,(-1+1r)/1024)", impl.ErrRange, impl.ErrRange, "", ""},
}

func TestFoldingsAtTheLimits(t *testing.T) {
	for _, v := range wideTexts {
		p := drawn(t, v.text)
		checkFolding(t, p)
		_, code := impl.FoldPattern(p)
		_, pointsCode := impl.FoldPoints(p)
		if bad, badCode := impl.BadJoint(p); code != v.code || pointsCode != v.pointsCode || badCode != impl.ErrNotFound {
			t.Errorf("%q is folded with the codes %d and %d, and the bad joint %d, %d", v.text, code, pointsCode, bad, badCode)
		}
		joints, _ := impl.NeighboursOf(p)
		for length, text := range map[int]string{1: v.there, 2: v.whole} {
			if length > len(joints) {
				continue
			}
			want, wantCode := impl.Motion{}, int64(impl.ErrRange)
			if text != "" {
				want, wantCode = mustMotion(t, text), impl.OK
			}
			if got, code := impl.WayMotion(p, []int64{0, 1}[:length]); got != want || code != wantCode {
				t.Errorf("the way of %d joints through %q has the motion %v, %d, not %v", length, v.text, got, code, want)
			}
		}
		// There and back again the motion is the identity, whatever it is between.
		if got, code := impl.WayMotion(p, []int64{0, 0}); got != (impl.Motion{}) || code != impl.OK {
			t.Errorf("the way there and back through %q has the motion %v, %d", v.text, got, code)
		}
	}
}

func TestErrorsOfFoldingInOrder(t *testing.T) {
	for _, v := range []struct {
		text string
		code int64
	}{
		// A motion leaves the limits, too.
		{"B (0,0) (131072,0) (131072,131072) (0,131072) (0,0); V (100000,0) (100000,131072); O (100000,5) (131072,5)", impl.ErrNotFlat},
		{"B (-131072,0) (131072,0) (131072,10) (-131072,10) (-131072,0); V (-65537,0) (-65537,10); O (-65537,5) (-65532,0)", impl.ErrNotFlat},
		// There is a point with three creases, and a face is not convex.
		{"B (0,0) (4,0) (4,4) (0,4) (0,0); V (0,1) (4,1); O (2,1) (2,2)", impl.ErrGeometry},
		{insideTexts[6], impl.ErrGeometry},
	} {
		checkFoldingRejected(t, drawn(t, v.text), v.code)
	}
	full, wide := gridPattern(5, 5), gridPattern(6, 4)
	checkFoldingRejected(t, full, impl.ErrFull)
	insertCrease(&full, impl.Crease{From: 0, To: 7, Kind: impl.KdOpen})
	checkFoldingRejected(t, full, impl.ErrFull)
	most := filledPattern(7, 4, 3)
	if len(most.Points) != impl.MaxPoints || len(most.Creases) != impl.MaxCreases {
		t.Errorf("%s does not have the most points and creases", patternText(most))
	}
	checkFoldingRejected(t, most, impl.ErrFull)
	checkFoldingRejected(t, filledPattern(6, 4, 1), impl.ErrFull)
	insertCrease(&wide, impl.Crease{From: 6, To: 6, Kind: impl.KdOpen})
	checkFoldingRejected(t, wide, impl.ErrInvalid)
	for _, text := range insideTexts {
		checkFoldingRejected(t, drawn(t, text), impl.ErrGeometry)
	}
	for _, v := range wrongPatterns {
		checkFoldingRejected(t, written(t, v.points, v.creases), impl.ErrInvalid)
	}
	for i, p := range wildPatterns() {
		if !impl.ValidPattern(p) && (i%5 == 0 || len(p.Points) > 50) {
			checkFoldingRejected(t, p, impl.ErrInvalid)
		}
	}
}

// checkFoldingRejected checks that a pattern has no folding map, with this code, and that no way has a
// motion if this is one of the errors of FacesOf.
func checkFoldingRejected(t *testing.T, p impl.Pattern, want int64) {
	t.Helper()
	motions, code := impl.FoldPattern(p)
	points, pointsCode := impl.FoldPoints(p)
	if len(motions)+len(points) != 0 || code != want || pointsCode != want || impl.FoldsFlat(p) {
		t.Errorf("%s has the motions %v, %d and the places %v, %d, not %d", patternText(p), motions, code, points, pointsCode, want)
	}
	for _, list := range [][]impl.Motion{nil, {{}}, {{}, {}}, make([]impl.Motion, 25)} {
		if impl.CheckMotions(p, list) {
			t.Errorf("%s is folded by %v", patternText(p), list)
		}
	}
	if want == impl.ErrNotFlat {
		return
	}
	tree, treeCode := impl.FoldTree(p)
	bad, badCode := impl.BadJoint(p)
	if len(tree) != 0 || treeCode != want || bad != 0 || badCode != want {
		t.Errorf("%s has the tree %v, %d and the bad joint %d, %d, not %d", patternText(p), tree, treeCode, bad, badCode, want)
	}
	for _, way := range [][]int64{nil, {0}, {-1}, {0, math.MaxInt64}, {5, 3}} {
		if got, code := impl.WayMotion(p, way); got != (impl.Motion{}) || code != want {
			t.Errorf("the way %v through %s has the motion %v, %d, not %d", way, patternText(p), got, code, want)
		}
	}
}

func TestWayMotion(t *testing.T) {
	cross, one := drawn(t, crossText), drawn(t, "B (0,0) (1,0) (1,1) (0,1) (0,0)")
	three := drawn(t, "B (0,0) (2,0) (2,2) (0,2) (0,0); V (0,1) (2,1); O (1,1) (1,2)")
	split := drawn(t, "B (0,0) (2,0) (2,2) (0,2) (0,0); M (0,1) (1,1); V (1,1) (2,1)")
	for _, v := range []struct {
		p    impl.Pattern
		way  []int64
		want string
	}{
		{one, nil, "r0 (0,0)"}, {one, []int64{}, "r0 (0,0)"}, {cross, nil, "r0 (0,0)"}, {three, nil, "r0 (0,0)"},
		{cross, []int64{0}, "f0 (0,2)"}, {cross, []int64{1}, "f4 (2,0)"}, {cross, []int64{0, 2}, "r4 (2,2)"}, {cross, []int64{1, 3}, "r4 (2,2)"},
		{cross, []int64{0, 0}, "r0 (0,0)"}, {cross, []int64{1, 1, 1}, "f4 (2,0)"}, {cross, []int64{0, 2, 2, 0, 1}, "f4 (2,0)"},
		{cross, []int64{0, 2, 3, 1}, "r0 (0,0)"}, {cross, []int64{1, 3, 2, 0}, "r0 (0,0)"}, {cross, []int64{1, 3, 2, 0, 1, 3, 2, 0, 0}, "f0 (0,2)"},
		// At a point with three creases, once around is a reflection, and twice around is nothing.
		{three, []int64{0, 2, 1}, "f4 (2,0)"}, {three, []int64{1, 2, 0}, "f4 (2,0)"}, {three, []int64{0, 2, 1, 0, 2, 1}, "r0 (0,0)"}, {three, []int64{0, 2, 1, 1, 2, 0}, "r0 (0,0)"}, {three, []int64{0, 2}, "r4 (2,2)"}, {three, []int64{1}, "f0 (0,2)"},
		{split, []int64{0, 1}, "r0 (0,0)"}, {split, []int64{1, 0, 1}, "f0 (0,2)"},
	} {
		if got, code := impl.WayMotion(v.p, v.way); got != mustMotion(t, v.want) || code != impl.OK {
			t.Errorf("the way %v through %s has the motion %v, %d, not %s", v.way, patternText(v.p), got, code, v.want)
		}
	}
}

func TestWaysThatThereAreNot(t *testing.T) {
	cross, one := drawn(t, crossText), drawn(t, "B (0,0) (1,0) (1,1) (0,1) (0,0)")
	far := drawn(t, wideTexts[3].text)
	for _, v := range []struct {
		p    impl.Pattern
		way  []int64
		want int64
	}{
		{cross, []int64{2}, impl.ErrState}, {cross, []int64{3, 1}, impl.ErrState}, {cross, []int64{0, 1}, impl.ErrState}, {cross, []int64{0, 2, 3, 1, 2}, impl.ErrState}, {cross, []int64{0, 3}, impl.ErrState},
		// The index of a joint that there is not, behind a joint of another face.
		{cross, []int64{2, 4}, impl.ErrRange}, {cross, []int64{0, 1, 1, 2, -1}, impl.ErrRange}, {cross, []int64{4}, impl.ErrRange}, {cross, []int64{0, 0, 4}, impl.ErrRange}, {one, []int64{0}, impl.ErrRange}, {one, []int64{-1, 0}, impl.ErrRange},
		// A joint of another face, behind a joint by which the motion leaves the limits.
		{far, []int64{0, 1, 0}, impl.ErrState}, {far, []int64{1, 0}, impl.ErrState}, {far, []int64{0, 1, 0, 2}, impl.ErrRange}, {far, []int64{0, 1, 1}, impl.ErrRange}, {far, []int64{0, 1, 1, 0}, impl.OK},
	} {
		if got, code := impl.WayMotion(v.p, v.way); got != (impl.Motion{}) || code != v.want {
			t.Errorf("the way %v through %s has the motion %v, %d, not %d", v.way, patternText(v.p), got, code, v.want)
		}
	}
	for _, i := range append(wildDirections(), math.MinInt64+1, 1<<32+1) {
		if i >= 0 && i < 4 {
			continue
		}
		for _, way := range [][]int64{{i}, {0, i}, {i, 0}, {3, 3, i}, {0, 0, i, 0, 0}} {
			if got, code := impl.WayMotion(cross, way); got != (impl.Motion{}) || code != impl.ErrRange {
				t.Errorf("the way %v has the motion %v, %d", way, got, code)
			}
		}
	}
}

// power returns the frame that is equal to f, count times.
func (f frame) power(count int) frame {
	all := frameOf(impl.Motion{})
	for count > 0 {
		if count%2 == 1 {
			all = all.before(f)
		}
		f, count = f.before(f), count/2
	}
	return all
}

// TestLongWays goes again and again around two points, at each of which the paper is turned by 180 degrees.
func TestLongWays(t *testing.T) {
	t.Parallel()
	for _, v := range []struct {
		text  string
		count int
		code  int64
	}{
		{"B (0,0) (64,0) (64,32) (0,32) (0,0); V (0,16) (64,16); M (0,0) (32,32); M (32,0) (64,32)", 1, impl.OK},
		{"B (0,0) (64,0) (64,32) (0,32) (0,0); V (0,16) (64,16); M (0,0) (32,32); M (32,0) (64,32)", 2048, impl.OK},
		{"B (0,0) (64,0) (64,32) (0,32) (0,0); V (0,16) (64,16); M (0,0) (32,32); M (32,0) (64,32)", 2049, impl.ErrRange},
		{"B (-131072,-131072) (131072,-131072) (131072,131072) (-131072,131072) (-131072,-131072); V (-131072,0) (131072,0); M (-131072,-65536) (65536,131072); M (-65536,-131072) (131072,65536)", 20000, impl.ErrRange},
	} {
		p := drawn(t, v.text)
		joints, _ := impl.NeighboursOf(p)
		inner := impl.InteriorOf(p)
		round := append(roundWay(t, p, inner[0]), roundWay(t, p, inner[len(inner)-1])...)
		way := slices.Repeat(round, v.count)
		want, ok := motionOracle(wayOfJoints(joints, round).power(v.count).place)
		if ok != (v.code == impl.OK) {
			t.Fatalf("%d times around both points of %q has the motion %v, %v", v.count, v.text, want, ok)
		}
		if got, code := impl.WayMotion(p, way); got != want || code != v.code {
			t.Errorf("%d times around both points of %q has the motion %v, %d, not %v", v.count, v.text, got, code, want)
		}
		back := slices.Clone(way)
		slices.Reverse(back)
		if got, code := impl.WayMotion(p, append(way, back...)); got != (impl.Motion{}) || code != impl.OK {
			t.Errorf("%d times around both points of %q and back has the motion %v, %d", v.count, v.text, got, code)
		}
	}
}

func TestCheckMotions(t *testing.T) {
	cross := drawn(t, crossText)
	right := mustMotions(t, "r0 (0,0), f0 (0,2), f4 (2,0), r4 (2,2)")
	if !impl.CheckMotions(cross, right) {
		t.Errorf("the motions %v are not accepted", right)
	}
	wrong := [][]impl.Motion{nil, {}, right[:1], right[:3], append(slices.Clone(right), impl.Motion{}), append(slices.Clone(right), right...), make([]impl.Motion, 4), slices.Repeat(right, 5000)}
	for _, text := range []string{
		"r0 (0,0), f4 (2,0), f0 (0,2), r4 (2,2)", "r0 (0,0), f0 (0,2), f4 (2,0), r4 (2,3)", "r0 (0,0), f0 (0,2), f4 (2,0), f4 (2,2)", "r0 (0,0), f0 (0,2), f4 (2,1), r4 (2,2)", "r0 (0,0), r0 (0,2), f4 (2,0), r4 (2,2)",
		"r0 (0,0), f0 (0,2), f4 (2,0), r0 (0,0)", "r0 (1,0), f0 (0,2), f4 (2,0), r4 (2,2)",
		// Moved, so that only face 0 is wrong.
		"r0 (1,0), f0 (1,2), f4 (3,0), r4 (3,2)", "f4 (0,0), r4 (0,2), r0 (-2,0), f0 (-2,2)", "r4 (2,2), f4 (2,0), f0 (0,2), r0 (0,0)",
	} {
		wrong = append(wrong, mustMotions(t, text))
	}
	for i, bad := range invalidMotions() {
		list := slices.Clone(right)
		list[i%4] = bad
		wrong = append(wrong, list)
	}
	for _, list := range wrong {
		if impl.CheckMotions(cross, list) {
			t.Errorf("the motions %v are accepted", list[:min(len(list), 10)])
		}
	}
	one := drawn(t, "B (0,0) (1,0) (1,1) (0,1) (0,0)")
	if !impl.CheckMotions(one, []impl.Motion{{}}) || impl.CheckMotions(one, nil) || impl.CheckMotions(one, make([]impl.Motion, 2)) || impl.CheckMotions(one, mustMotions(t, "r4 (1,1)")) {
		t.Errorf("the motions of one face are not checked")
	}
}

// TestNoMotionsOfPatternsThatDoNotFold tries motions that agree at all joints but one, and the right motions
// of patterns that are not as they should be.
func TestNoMotionsOfPatternsThatDoNotFold(t *testing.T) {
	three := drawn(t, "B (0,0) (2,0) (2,2) (0,2) (0,0); V (0,1) (2,1); O (1,1) (1,2)")
	for _, text := range []string{"r0 (0,0), f0 (0,2), f0 (0,2)", "r0 (0,0), f0 (0,2), r4 (2,2)", "r0 (0,0), f4 (2,2), f0 (0,2)"} {
		if impl.CheckMotions(three, mustMotions(t, text)) {
			t.Errorf("a point with three creases is folded by %s", text)
		}
	}
	right := mustMotions(t, "r0 (0,0), f0 (0,2), f4 (2,0), r4 (2,2)")
	for _, p := range patternsLike(drawn(t, crossText), 17) {
		if impl.CheckMotions(p, right) && facesCodeOracle(p) != impl.OK {
			t.Errorf("%s is folded by %v", patternText(p), right)
		}
	}
	loose := drawn(t, crossText+"; O (0,0) (1/2,1/2)")
	if impl.CheckMotions(loose, right) || impl.CheckMotions(impl.Pattern{}, nil) || impl.CheckMotions(impl.Pattern{}, right) || impl.CheckMotions(gridPattern(5, 5), make([]impl.Motion, 25)) {
		t.Errorf("a pattern without faces is folded")
	}
}

// The greatest patterns that are allowed.
func TestGreatestFoldings(t *testing.T) {
	t.Parallel()
	for _, v := range []struct {
		p                      impl.Pattern
		points, creases, faces int
		flat                   bool
	}{
		{gridPattern(6, 4), 35, 58, 24, true}, {gridPattern(12, 2), 39, 62, 24, true}, {gridPattern(19, 1), 40, 58, 19, true}, {sidePattern(40), 40, 40, 1, true},
		{filledPattern(7, 3, 3), 32, 55, 24, false}, {filledPattern(19, 1, 5), 40, 63, 24, true}, {stripesPattern(17), 40, 42, 3, true},
	} {
		checkFolding(t, v.p)
		faces, code := impl.FacesOf(v.p)
		if len(v.p.Points) != v.points || len(v.p.Creases) != v.creases || len(faces) != v.faces || code != impl.OK || impl.FoldsFlat(v.p) != v.flat {
			t.Errorf("%s has %d points, %d creases and %d faces, and FoldsFlat is %v", patternText(v.p), len(v.p.Points), len(v.p.Creases), len(faces), impl.FoldsFlat(v.p))
		}
	}
}

func TestFoldingWithOpenCreases(t *testing.T) {
	for _, p := range []impl.Pattern{drawn(t, crossText), gridPattern(6, 4), drawn(t, insideTexts[2]), drawn(t, wideTexts[3].text)} {
		want, wantCode := impl.FoldPattern(p)
		for kind := int64(impl.KdMountain); kind <= impl.KdOpen; kind++ {
			other := impl.Pattern{Points: p.Points, Creases: slices.Clone(p.Creases)}
			for i, c := range other.Creases {
				if c.Kind != impl.KdBorder {
					other.Creases[i].Kind = kind
				}
			}
			if got, code := impl.FoldPattern(other); fmt.Sprint(got, code) != fmt.Sprint(want, wantCode) {
				t.Errorf("%s is folded by %v, %d, not %v, %d", patternText(other), got, code, want, wantCode)
			}
		}
	}
}
