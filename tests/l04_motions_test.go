package tests

import (
	"slices"
	"strings"
	"testing"

	"loop.example/g00857/impl"
)

func TestValidMotion(t *testing.T) {
	for _, m := range someMotions(t) {
		if !impl.ValidMotion(m) {
			t.Errorf("ValidMotion(%v) is false", m)
		}
	}
	for _, m := range invalidMotions() {
		if impl.ValidMotion(m) {
			t.Errorf("ValidMotion(%v) is true", m)
		}
	}
}

func TestIdentity(t *testing.T) {
	if impl.Identity() != (impl.Motion{}) || !impl.ValidMotion(impl.Identity()) {
		t.Errorf("Identity() is %v", impl.Identity())
	}
	for _, p := range somePoints() {
		if got, ok := impl.MovePoint(impl.Identity(), p); got != p || !ok {
			t.Errorf("the identity moves %v to %v, %v", p, got, ok)
		}
	}
	for _, l := range someLines() {
		if got, ok := impl.MoveLine(impl.Identity(), l); got != l || !ok {
			t.Errorf("the identity moves %v to %v, %v", l, got, ok)
		}
	}
}

func TestMovePoint(t *testing.T) {
	for _, v := range []struct{ m, p, want string }{
		{"r2 (4,0)", "(1,0)", "(4,1)"}, {"f2 (4,0)", "(1,0)", "(4,1)"}, {"f2 (4,0)", "(0,1)", "(5,0)"}, {"r2 (4,0)", "(0,1)", "(3,0)"}, {"r0 (0,0)", "(3,5)", "(3,5)"},
		{"r0 (-1,2)", "(3,5)", "(2,7)"}, {"f0 (0,0)", "(3,5)", "(3,-5)"}, {"f0 (1,1)", "(3,5)", "(4,-4)"}, {"f2 (0,0)", "(1,0)", "(0,1)"}, {"r4 (0,0)", "(3,5)", "(-3,-5)"},
		{"r1 (0,0)", "(1,0)", "(1r/2,1r/2)"}, {"r7 (0,0)", "(1,0)", "(1r/2,-1r/2)"}, {"f7 (0,0)", "(0,1)", "(-1r/2,-1r/2)"}, {"r1 (0,0)", "(1,1)", "(0,1r)"}, {"r3 (0,0)", "(1,0)", "(-1r/2,1r/2)"},
		{"r0 (131072,0)", "(-1,0)", "(131071,0)"}, {"r0 (131072,0)", "(0,131072)", "(131072,131072)"}, {"r0 (131072,0)", "(1,0)", ""}, {"r0 (0,-131072)", "(0,-1)", ""}, {"f0 (0,-131072)", "(0,-1)", "(0,-131071)"},
		{"r1 (0,0)", "(1/1024,0)", ""}, {"r1 (0,0)", "(1/512,0)", "(1r/1024,1r/1024)"}, {"r1 (0,0)", "(1r/1024,0)", "(1/1024,1/1024)"}, {"r1 (0,0)", "(1/1024,1/1024)", "(0,1r/1024)"}, {"r2 (0,0)", "(1/1024,0)", "(0,1/1024)"},
		{"r1 (0,0)", "(131072,131072)", "(0,131072r)"}, {"r1 (0,0)", "(131072r,0)", "(131072,131072)"}, {"r1 (0,0)", "(131072+131072r,-131072-131072r)", ""}, {"r1 (0,0)", "(0,131072r)", "(-131072,131072)"},
		{"r0 (1/1024,0)", "(128,0)", ""}, {"r0 (1/1024,0)", "(127,0)", "(130049/1024,0)"}, {"r0 (1/1024,0)", "(1023/1024,0)", "(1,0)"},
	} {
		want, ok := pointTextOracle(v.want)
		if got, gotOk := impl.MovePoint(mustMotion(t, v.m), mustPoint(t, v.p)); got != want || gotOk != ok {
			t.Errorf("%s moves %s to %s, %v, not %q", v.m, v.p, impl.PointText(got), gotOk, v.want)
		}
	}
}

func TestMoveDirection(t *testing.T) {
	for _, v := range []struct {
		m    string
		d    int64
		want int64
	}{
		{"r2 (4,0)", 1, 5}, {"f2 (4,0)", 1, 3}, {"r0 (0,0)", 0, 0}, {"r0 (0,0)", 15, 15}, {"f0 (0,0)", 0, 0}, {"f0 (0,0)", 15, 1}, {"f0 (0,0)", 1, 15}, {"f0 (0,0)", 8, 8},
		{"r7 (0,0)", 0, 14}, {"r7 (0,0)", 15, 13}, {"r7 (0,0)", 2, 0}, {"f7 (0,0)", 0, 14}, {"f7 (0,0)", 15, 15}, {"f7 (0,0)", 14, 0}, {"r4 (1,2)", 9, 1}, {"f4 (1,2)", 9, 15},
		{"r2 (4,0)", 16, -1}, {"r2 (4,0)", -1, -1}, {"f2 (4,0)", 16, -1}, {"f0 (0,0)", -1, -1}, {"r7 (0,0)", 17, -1}, {"f0 (0,0)", -15, -1}, {"r0 (131072,0)", 7, 7},
	} {
		if got := impl.MoveDirection(mustMotion(t, v.m), v.d); got != v.want {
			t.Errorf("%s moves the direction %d to %d, not %d", v.m, v.d, got, v.want)
		}
	}
	for _, m := range linearParts() {
		for _, d := range wildDirections() {
			want := int64(-1)
			if d >= 0 && d < 16 {
				want = moveDirectionOracle(m, d)
			}
			if got := impl.MoveDirection(m, d); got != want {
				t.Errorf("%v moves the direction %d to %d, not %d", m, d, got, want)
			}
		}
	}
}

func TestMoveLine(t *testing.T) {
	for _, v := range []struct{ m, l, want string }{
		{"r0 (0,0)", "5@3/2", "5@3/2"}, {"r2 (4,0)", "0@0", "4@-4"}, {"f0 (0,0)", "2@1", "6@1"}, {"r4 (0,0)", "0@5", "0@-5"}, {"f4 (0,0)", "0@5", "0@5"}, {"f4 (6,0)", "2@0", "6@-6"},
		{"r7 (0,0)", "7@0", "5@0"}, {"f7 (0,0)", "7@0", "7@0"}, {"f7 (0,0)", "0@0", "6@0"}, {"r7 (0,0)", "0@0", "6@0"}, {"r1 (0,0)", "0@1", "2@1r"}, {"r3 (0,0)", "1@1", "7@1"}, {"r1 (0,0)", "7@1", "1@-1"},
		{"r1 (0,0)", "0@1/1024", "2@1r/1024"}, {"r1 (0,0)", "2@1/1024", ""}, {"r1 (0,0)", "2@1/512", "4@1r/1024"}, {"r2 (0,0)", "2@1/1024", "6@1/1024"},
		{"r0 (1,0)", "4@131072", "4@131071"}, {"r0 (-1,0)", "4@131072", ""}, {"r0 (0,-1)", "4@131072", "4@131072"}, {"r0 (131072,131072)", "2@5", "2@5"}, {"r0 (131072,-131072)", "2@5", ""},
		{"r1 (0,0)", "0@131072", "2@131072r"}, {"r1 (0,0)", "0@131072r", ""}, {"r1 (0,0)", "0@65536r", "2@131072"}, {"r1 (0,0)", "2@131072", "4@65536r"}, {"r4 (0,0)", "1@131072+131072r", "1@-131072-131072r"},
	} {
		want, ok := lineTextOracle(v.want)
		if got, gotOk := impl.MoveLine(mustMotion(t, v.m), mustLine(t, v.l)); got != want || gotOk != ok {
			t.Errorf("%s moves %s to %s, %v, not %q", v.m, v.l, impl.LineText(got), gotOk, v.want)
		}
	}
}

func TestMovePolygon(t *testing.T) {
	square := polygonTexts[0]
	for _, v := range []struct{ m, list, want string }{
		{"r0 (0,0)", square, square}, {"f0 (0,0)", "(0,0) (2,0) (2,2)", "(0,0) (2,-2) (2,0)"}, {"r4 (0,0)", square, "(-2,-2) (0,-2) (0,0) (-2,0)"}, {"f2 (0,0)", square, square},
		{"r1 (0,0)", square, "(-1r,1r) (0,0) (1r,1r) (0,2r)"}, {"f7 (0,0)", square, "(-1r,-1r) (0,-2r) (1r,-1r) (0,0)"}, {"r7 (1,0)", "(0,0) (2,0) (2,2)", "(1,0) (1+1r,-1r) (1+2r,0)"},
		{"f4 (6,0)", square, "(4,0) (6,0) (6,2) (4,2)"}, {"f0 (0,2)", square, square}, {"f0 (0,131072)", square, "(0,131070) (2,131070) (2,131072) (0,131072)"},
		{"r0 (131070,0)", square, "(131070,0) (131072,0) (131072,2) (131070,2)"}, {"r0 (131071,0)", square, ""}, {"r4 (0,-131072)", square, ""}, {"r1 (0,0)", "(0,0) (1/1024,0) (1/1024,1/1024) (0,1/1024)", ""},
		{"r2 (0,0)", "(0,0) (1/1024,0) (1/1024,1/1024) (0,1/1024)", "(-1/1024,0) (0,0) (0,1/1024) (-1/1024,1/1024)"}, {"r4 (0,0)", polygonTexts[8], polygonTexts[8]}, {"r0 (1,0)", polygonTexts[8], ""},
		{"r1 (0,0)", polygonTexts[8], "(-131072r,0) (0,-131072r) (131072r,0) (0,131072r)"},
	} {
		want := mustPoints(t, v.want)
		if got, ok := impl.MovePolygon(mustMotion(t, v.m), mustPoints(t, v.list)); !slices.Equal(got, want) || ok != (v.want != "") {
			t.Errorf("%s moves %s to %s, %v, not %q", v.m, v.list, impl.PolygonText(got), ok, v.want)
		}
	}
	// The parts of a corner are too large only after the move, one corner after the other.
	for i := range 4 {
		list := []impl.Point{{}, {X: impl.Num{A: 1}}, {X: impl.Num{A: 1}, Y: impl.Num{A: 1}}, {Y: impl.Num{A: 1}}}
		at := []string{"(131072,131072)", "(131071,131072)", "(131071,131071)", "(131072,131071)"}[i]
		m := mustMotion(t, "r0 "+at)
		if got, ok := impl.MovePolygon(m, list); ok != (i == 2) || !ok && len(got) != 0 {
			t.Errorf("%v moves a square to %v, %v", m, got, ok)
		}
	}
}

func TestCompose(t *testing.T) {
	for _, v := range []struct{ first, second, want string }{
		{"r2 (0,0)", "r0 (4,0)", "r2 (4,0)"}, {"r0 (4,0)", "r2 (0,0)", "r2 (0,4)"}, {"f0 (0,0)", "r2 (0,0)", "f2 (0,0)"}, {"r2 (0,0)", "f0 (0,0)", "f6 (0,0)"}, {"f1 (0,0)", "f1 (0,0)", "r0 (0,0)"},
		{"f3 (1,0)", "r1 (0,2)", "f4 (1r/2,(4+1r)/2)"}, {"r1 (0,2)", "f3 (1,0)", "f2 (1+1r,1r)"}, {"f0 (0,0)", "f2 (0,0)", "r2 (0,0)"}, {"f2 (0,0)", "f0 (0,0)", "r6 (0,0)"}, {"r7 (0,0)", "r7 (0,0)", "r6 (0,0)"},
		{"r4 (1,2)", "r4 (3,4)", "r0 (2,2)"}, {"r2 (4,0)", "r6 (0,4)", "r0 (0,0)"}, {"f4 (6,0)", "f4 (2,0)", "r0 (-4,0)"}, {"f4 (2,0)", "f4 (6,0)", "r0 (4,0)"},
		{"r0 (131072,0)", "r0 (1,0)", ""}, {"r0 (131072,0)", "r0 (-1,0)", "r0 (131071,0)"}, {"r0 (0,131072)", "f0 (0,-1)", ""}, {"r0 (0,131072)", "f0 (0,1)", "f0 (0,-131071)"},
		{"r0 (1/1024,0)", "r1 (0,0)", ""}, {"r1 (0,0)", "r0 (1/1024,0)", "r1 (1/1024,0)"}, {"r0 (1/512,0)", "r1 (0,0)", "r1 (1r/1024,1r/1024)"}, {"r0 (131072r,0)", "r1 (0,0)", "r1 (131072,131072)"},
		{"r0 (131072+131072r,0)", "r1 (0,0)", "r1 (131072+65536r,131072+65536r)"}, {"r0 (131072+131072r,131072+131072r)", "r1 (0,0)", ""}, {"r0 (1/1024,0)", "r0 (128,0)", ""}, {"r0 (1/2,0)", "r0 (1/2,0)", "r0 (1,0)"},
	} {
		want, ok := motionTextOracle(v.want)
		if got, gotOk := impl.Compose(mustMotion(t, v.first), mustMotion(t, v.second)); got != want || gotOk != ok {
			t.Errorf("%s and then %s is %q, %v, not %q", v.first, v.second, impl.MotionText(got), gotOk, v.want)
		}
	}
}

func TestInvert(t *testing.T) {
	for _, v := range []struct{ m, want string }{
		{"r0 (0,0)", "r0 (0,0)"}, {"r2 (4,0)", "r6 (0,4)"}, {"r1 (0,0)", "r7 (0,0)"}, {"r7 (0,0)", "r1 (0,0)"}, {"r4 (1,2)", "r4 (1,2)"}, {"f3 (1,0)", "f3 (1r/2,-1r/2)"}, {"f4 (6,0)", "f4 (6,0)"},
		{"f0 (3,5)", "f0 (-3,5)"}, {"f2 (3,5)", "f2 (-5,-3)"}, {"r0 (3,-5)", "r0 (-3,5)"}, {"r1 (1/1024,0)", ""}, {"r1 (1/512,0)", "r7 (-1r/1024,1r/1024)"}, {"r1 (1/1024,1/1024)", "r7 (-1r/1024,0)"},
		{"f1 (1/1024,0)", ""}, {"r2 (1/1024,0)", "r6 (0,1/1024)"}, {"r7 (131072,-131072)", "r1 (-131072r,0)"}, {"f0 (131072,131072)", "f0 (-131072,131072)"}, {"r1 (131072r,131072r)", ""},
		{"r0 (131072+131072r,-131072-131072r)", "r0 (-131072-131072r,131072+131072r)"}, {"r3 (131072+131072r,-131072-131072r)", ""}, {"f7 (0,0)", "f7 (0,0)"},
	} {
		want, ok := motionTextOracle(v.want)
		if got, gotOk := impl.Invert(mustMotion(t, v.m)); got != want || gotOk != ok {
			t.Errorf("the inverse of %s is %q, %v, not %q", v.m, impl.MotionText(got), gotOk, v.want)
		}
	}
}

func TestReflection(t *testing.T) {
	for _, v := range []struct{ l, want string }{
		{"0@0", "f0 (0,0)"}, {"1@0", "f1 (0,0)"}, {"2@0", "f2 (0,0)"}, {"3@0", "f3 (0,0)"}, {"4@0", "f4 (0,0)"}, {"5@0", "f5 (0,0)"}, {"6@0", "f6 (0,0)"}, {"7@0", "f7 (0,0)"},
		{"0@5", "f0 (0,10)"}, {"1@1", "f1 (-1r/2,(2+1r)/2)"}, {"2@1", "f2 (-1,1)"}, {"3@1", "f3 ((-2-1r)/2,1r/2)"}, {"4@-3", "f4 (6,0)"}, {"5@1", "f5 ((-2-1r)/2,-1r/2)"}, {"6@-2", "f6 (2,2)"}, {"7@1", "f7 (-1r/2,(-2-1r)/2)"},
		{"0@131072", ""}, {"0@65536", "f0 (0,131072)"}, {"0@65537", ""}, {"2@131072", "f2 (-131072,131072)"}, {"4@-131072-131072r", ""}, {"0@1/1024", "f0 (0,1/512)"}, {"2@1/1024", "f2 (-1/1024,1/1024)"},
		{"1@1/1024", ""}, {"1@1/512", "f1 (-1r/1024,(2+1r)/1024)"},
	} {
		want, ok := motionTextOracle(v.want)
		if got, gotOk := impl.Reflection(mustLine(t, v.l)); got != want || gotOk != ok {
			t.Errorf("the reflection in %s is %q, %v, not %q", v.l, impl.MotionText(got), gotOk, v.want)
		}
	}
	if p, ok := impl.MovePoint(mustMotion(t, "f2 (0,0)"), mustPoint(t, "(1,0)")); p != mustPoint(t, "(0,1)") || !ok {
		t.Errorf("the reflection in the line of the direction 2 moves 1, 0 to %v, %v", p, ok)
	}
}

func TestMotionTexts(t *testing.T) {
	for s, want := range map[string]impl.Motion{
		"r0 (0,0)": {}, "f3 (1,0)": {Turn: 3, Flip: true, X: impl.Num{A: 1}}, "r7 ((1+1r)/2,-131072)": {Turn: 7, X: impl.Num{A: 1, B: 1, K: 1}, Y: impl.Num{A: -131072}},
		"f0 (0,1/1024)": {Flip: true, Y: impl.Num{A: 1, K: 10}}, "f7 (-1r/2,0)": {Turn: 7, Flip: true, X: impl.Num{B: -1, K: 1}},
	} {
		if got, ok := impl.ReadMotion(s); impl.MotionText(want) != s || got != want || !ok {
			t.Errorf("%q is read as %v, %v, and the text of %v is %q", s, got, ok, want, impl.MotionText(want))
		}
	}
	for _, s := range []string{
		"", " ", "r", "f", "r0", "f0 ", "r0(0,0)", "r0  (0,0)", " r0 (0,0)", "r0 (0,0) ", "r0 (0,0)\n", "r0\t(0,0)", "r0 (0, 0)", "r0 (0,0) (0,0)", "r0 (0,0)(0,0)", "r0 0,0", "r0 ()", "r0 (0)", "r0 (0,0", "(0,0)", " (0,0)",
		"r8 (0,0)", "r9 (0,0)", "f8 (0,0)", "r-1 (0,0)", "r+1 (0,0)", "r00 (0,0)", "r01 (0,0)", "r10 (0,0)", "R0 (0,0)", "F0 (0,0)", "x0 (0,0)", "0 (0,0)", "00 (0,0)", "0r (0,0)", "r (0,0)", "f (0,0)", "rr (0,0)", "fr0 (0,0)", "r0f (0,0)",
		"r/ (0,0)", "r: (0,0)", "f\x00 (0,0)", "r\xff (0,0)", "r\xb0 (0,0)", "\xff0 (0,0)", "r\u0661 (0,0)", "q0 (0,0)", "s0 (0,0)", "e0 (0,0)", "g0 (0,0)", "r256 (0,0)",
		"r0 (131073,0)", "r0 (2/2,0)", "r0 (0,1/2048)", "r0 (0,-0)", "r0 (01,0)", "r0 (+1,0)", "r0 (9223372036854775808,0)", "r9223372036854775808 (0,0)", "r-9223372036854775808 (0,0)",
	} {
		if m, ok := impl.ReadMotion(s); ok || m != (impl.Motion{}) {
			t.Errorf("ReadMotion(%q) is %v, %v", s, m, ok)
		}
	}
	for _, s := range []string{"r", " ", "r0 ", "r0 (0,0)", "(", "\xff"} {
		for _, count := range []int{2, 3, 1000, 100000} {
			checkMotionText(t, strings.Repeat(s, count))
		}
	}
}

func TestInvalidMotionsAreRejected(t *testing.T) {
	good := mustMotion(t, "f3 (1,0)")
	square := mustPoints(t, polygonTexts[0])
	for _, bad := range invalidMotions() {
		p, pOk := impl.MovePoint(bad, impl.Point{})
		l, lOk := impl.MoveLine(bad, impl.Line{})
		list, listOk := impl.MovePolygon(bad, square)
		inverse, inverseOk := impl.Invert(bad)
		if p != (impl.Point{}) || pOk || l != (impl.Line{}) || lOk || len(list) != 0 || listOk || inverse != (impl.Motion{}) || inverseOk {
			t.Errorf("%v moves to %v, %v, to %v, %v and to %v, %v, and has the inverse %v, %v", bad, p, pOk, l, lOk, list, listOk, inverse, inverseOk)
		}
		for _, pair := range [][2]impl.Motion{{bad, good}, {good, bad}, {bad, bad}} {
			if m, ok := impl.Compose(pair[0], pair[1]); ok || m != (impl.Motion{}) {
				t.Errorf("Compose(%v) is %v, %v", pair, m, ok)
			}
		}
		for _, d := range []int64{0, 7, 15, -1, 16} {
			if impl.MoveDirection(bad, d) != -1 {
				t.Errorf("%v moves the direction %d to %d", bad, d, impl.MoveDirection(bad, d))
			}
		}
		if impl.MotionText(bad) != "" {
			t.Errorf("%v has the text %q", bad, impl.MotionText(bad))
		}
	}
}

func TestMotionsRejectWhatTheyCannotMove(t *testing.T) {
	for i, m := range someMotions(t) {
		p := invalidPoints()[i%len(invalidPoints())]
		l := invalidLines()[i%len(invalidLines())]
		if q, ok := impl.MovePoint(m, p); ok || q != (impl.Point{}) {
			t.Errorf("%v moves the invalid %v to %v", m, p, q)
		}
		if k, ok := impl.MoveLine(m, l); ok || k != (impl.Line{}) {
			t.Errorf("%v moves the invalid %v to %v", m, l, k)
		}
	}
	for _, l := range invalidLines() {
		if m, ok := impl.Reflection(l); ok || m != (impl.Motion{}) {
			t.Errorf("the reflection in the invalid %v is %v", l, m)
		}
	}
	square := mustPoints(t, polygonTexts[0])
	wrong := [][]impl.Point{nil, {}, make([]impl.Point, 4), make([]impl.Point, 5000), slices.Repeat(square, 5)}
	for _, s := range wrongPolygonTexts {
		wrong = append(wrong, mustPoints(t, s))
	}
	for i, p := range invalidPoints() {
		wrong = append(wrong, slices.Replace(slices.Clone(square), i%4, i%4+1, p))
	}
	for _, list := range wrong {
		for _, m := range linearParts() {
			if got, ok := impl.MovePolygon(m, list); ok || len(got) != 0 {
				t.Errorf("%v moves %v to %v, %v", m, list, got, ok)
			}
		}
	}
}
