package tests

import (
	"testing"

	"loop.example/g00857/impl"
)

func TestLineConstants(t *testing.T) {
	if impl.Directions != 16 || impl.LineDirections != 8 {
		t.Error(impl.Directions, impl.LineDirections)
	}
}

func TestValidPointsAndLines(t *testing.T) {
	for _, p := range somePoints() {
		if !impl.ValidPoint(p) {
			t.Errorf("ValidPoint(%v) is false", p)
		}
	}
	for _, l := range someLines() {
		if !impl.ValidLine(l) {
			t.Errorf("ValidLine(%v) is false", l)
		}
	}
	for _, p := range invalidPoints() {
		if impl.ValidPoint(p) {
			t.Errorf("ValidPoint(%v) is true", p)
		}
	}
	for _, l := range invalidLines() {
		if impl.ValidLine(l) {
			t.Errorf("ValidLine(%v) is true", l)
		}
	}
}

func TestComparePoints(t *testing.T) {
	for _, v := range []struct {
		p, q string
		want int64
	}{
		{"(0,0)", "(0,0)", 0}, {"(0,1)", "(1,0)", -1}, {"(1,0)", "(0,1)", 1}, {"(1,5)", "(1,4)", 1}, {"(1,4)", "(1,5)", -1}, {"(1,5)", "(1r,0)", -1},
		{"(-1,0)", "(-1r,0)", 1}, {"(0,80782r)", "(0,114243)", -1}, {"(131072,-131072)", "(131072,131072)", -1}, {"(1/1024,0)", "(0,131072)", 1},
		{"(-131072-131072r,0)", "(131072+131072r,0)", -1},
	} {
		if got := impl.ComparePoints(mustPoint(t, v.p), mustPoint(t, v.q)); got != v.want {
			t.Errorf("ComparePoints(%s, %s) is %d", v.p, v.q, got)
		}
	}
	list := somePoints()
	for _, p := range list {
		for _, q := range list {
			want := exactOf(p.X).difference(exactOf(q.X)).sign()
			if want == 0 {
				want = exactOf(p.Y).difference(exactOf(q.Y)).sign()
			}
			if got := impl.ComparePoints(p, q); got != want {
				t.Errorf("ComparePoints(%v, %v) is %d", p, q, got)
			}
		}
	}
}

func TestDirVector(t *testing.T) {
	table := []string{
		"(1,0)", "(1,-1+1r)", "(1,1)", "(-1+1r,1)", "(0,1)", "(1-1r,1)", "(-1,1)", "(-1,-1+1r)",
		"(-1,0)", "(-1,1-1r)", "(-1,-1)", "(1-1r,-1)", "(0,-1)", "(-1+1r,-1)", "(1,-1)", "(1,1-1r)",
	}
	for d, text := range table {
		if got := impl.DirVector(int64(d)); got != mustPoint(t, text) {
			t.Errorf("DirVector(%d) is %v, not %s", d, got, text)
		}
	}
	for _, d := range wildDirections() {
		if got := impl.DirVector(d); (d < 0 || d >= impl.Directions) && got != (impl.Point{}) {
			t.Errorf("DirVector(%d) is %v", d, got)
		}
	}
}

func TestDirectionOf(t *testing.T) {
	for _, v := range []struct {
		p, q string
		want int64
	}{
		{"(0,0)", "(2,-2+2r)", 1}, {"(3,1)", "(1,1)", 8}, {"(0,0)", "(2,1)", -1}, {"(0,0)", "(0,0)", -1}, {"(131072,1/2)", "(131072,1/2)", -1},
		{"(0,0)", "(1+1r,1)", 1}, {"(0,0)", "(-1,-1-1r)", 11}, {"(0,0)", "(1r,-1r)", 14}, {"(0,0)", "(1/1024,0)", 0}, {"(0,1/1024)", "(0,0)", 12},
		{"(-131072,-131072)", "(131072,131072)", 2}, {"(131072,-131072)", "(-131072,131072)", 6}, {"(-131072,0)", "(131072,-131072+131072r)", -1},
		{"(-131072,131072-131072r)", "(131072,-131072+131072r)", 1}, {"(0,0)", "(131072,131071)", -1}, {"(0,0)", "(80782,33461)", -1},
		{"(0,0)", "(114243-80782r,114243-80782r)", 2}, {"(0,0)", "(131072,1/1024)", -1}, {"(0,0)", "(-1+1r,3-2r)", 1}, {"(0,0)", "(1-1r,-1)", 11},
	} {
		if got := impl.DirectionOf(mustPoint(t, v.p), mustPoint(t, v.q)); got != v.want {
			t.Errorf("DirectionOf(%s, %s) is %d, not %d", v.p, v.q, got, v.want)
		}
	}
	list := somePoints()
	for i, p := range list {
		for _, q := range list[:1+i] {
			if got, want := impl.DirectionOf(p, q), directionOracle(p, q); got != want {
				t.Errorf("DirectionOf(%v, %v) is %d, not %d", p, q, got, want)
			}
		}
	}
}

func TestDirectionOfMultiplesOfVectors(t *testing.T) {
	for d := range int64(impl.Directions) {
		for _, factor := range []string{"1", "3", "1/2", "1r", "-1+1r", "5+3r", "1/1024", "99-70r", "20000"} {
			way := vectorOracle(d).scaled(exactOf(mustRead(t, factor)))
			for _, text := range []string{"(0,0)", "(1,2)", "(-7/4,(1+3r)/4)"} {
				p := mustPoint(t, text)
				q, ok := exactPointOf(p).sum(way).valid()
				if !ok {
					t.Fatalf("%s times the vector of %d from %s is not valid", factor, d, text)
				}
				if impl.DirectionOf(p, q) != d || impl.DirectionOf(q, p) != (d+8)%16 {
					t.Errorf("from %v to %v the direction is %d, and back %d, not %d", p, q, impl.DirectionOf(p, q), impl.DirectionOf(q, p), d)
				}
			}
		}
	}
}

func TestLineAt(t *testing.T) {
	for _, v := range []struct {
		p    string
		dir  int64
		want string
	}{
		{"(0,0)", 0, "0@0"}, {"(0,0)", 7, "7@0"}, {"(1,0)", 4, "4@-1"}, {"(3,5)", 0, "0@5"}, {"(1,0)", 1, "1@1-1r"}, {"(1,1)", 2, "2@0"}, {"(1,2)", 6, "6@-3"},
		{"(131072,0)", 4, "4@-131072"}, {"(0,131072)", 0, "0@131072"}, {"(131072,0)", 2, "2@-131072"}, {"(131072,-1)", 2, ""}, {"(131072,131072)", 2, "2@0"},
		{"(131072,0)", 1, "1@131072-131072r"}, {"(131072,1)", 1, ""}, {"(131072,-1)", 1, "1@131071-131072r"}, {"(65536,65536)", 6, "6@-131072"},
		{"(65536,65537)", 6, ""}, {"(1/1024,1/1024)", 6, "6@-1/512"}, {"(1/1024,0)", 3, "3@-1/1024"}, {"(0,65536r)", 3, "3@131072-65536r"}, {"(0,65537r)", 3, ""},
		{"(131072+131072r,0)", 4, "4@-131072-131072r"}, {"(0,0)", 8, ""}, {"(0,0)", -1, ""}, {"(0,0)", 15, ""}, {"(0,0)", 16, ""},
	} {
		got, ok := impl.LineAt(mustPoint(t, v.p), v.dir)
		want := impl.Line{}
		if v.want != "" {
			want = mustLine(t, v.want)
		}
		if got != want || ok != (v.want != "") {
			t.Errorf("LineAt(%s, %d) is %v, %v, not %q", v.p, v.dir, got, ok, v.want)
		}
	}
	for _, dir := range wildDirections() {
		got, ok := impl.LineAt(mustPoint(t, "(1,2)"), dir)
		if inside := dir >= 0 && dir < impl.LineDirections; ok != inside || !inside && got != (impl.Line{}) {
			t.Errorf("LineAt with the Dir %d is %v, %v", dir, got, ok)
		}
	}
}

func TestLineThrough(t *testing.T) {
	for _, v := range []struct {
		p, q string
		want string
		code int64
	}{
		{"(0,0)", "(1,1)", "2@0", impl.OK}, {"(1,1)", "(0,0)", "2@0", impl.OK}, {"(0,5)", "(3,5)", "0@5", impl.OK}, {"(3,5)", "(0,5)", "0@5", impl.OK},
		{"(2,0)", "(2,1)", "4@-2", impl.OK}, {"(2,1)", "(2,0)", "4@-2", impl.OK}, {"(0,0)", "(1,1-1r)", "7@0", impl.OK}, {"(0,0)", "(-1,-1+1r)", "7@0", impl.OK},
		{"(0,0)", "(2,1)", "", impl.ErrGeometry}, {"(1,1)", "(1,1)", "", impl.ErrGeometry},
		{"(131072,0)", "(131071,1)", "6@-131072", impl.OK}, {"(131072,1)", "(131071,2)", "", impl.ErrRange}, {"(131072,0)", "(131071,-1)", "2@-131072", impl.OK},
		{"(131072,-1)", "(131071,-2)", "", impl.ErrRange}, {"(131072,131071)", "(131072,131072)", "4@-131072", impl.OK}, {"(131072,131072)", "(131072,131072)", "", impl.ErrGeometry},
		{"(131072,131072)", "(0,1)", "", impl.ErrGeometry},
	} {
		got, code := impl.LineThrough(mustPoint(t, v.p), mustPoint(t, v.q))
		want := impl.Line{}
		if v.want != "" {
			want = mustLine(t, v.want)
		}
		if got != want || code != v.code {
			t.Errorf("LineThrough(%s, %s) is %v, %d, not %q, %d", v.p, v.q, got, code, v.want, v.code)
		}
	}
}

func TestSideOf(t *testing.T) {
	for _, v := range []struct {
		l, p string
		want int64
	}{
		{"2@0", "(0,1)", 1}, {"2@0", "(1,0)", -1}, {"2@0", "(3,3)", 0}, {"0@0", "(5,1/1024)", 1}, {"0@0", "(5,-1/1024)", -1}, {"0@0", "(5,0)", 0}, {"4@0", "(-1,0)", 1},
		{"4@0", "(1,0)", -1}, {"4@-1", "(0,0)", 1}, {"1@0", "(80782,33461)", 1}, {"1@0", "(33461,13860)", -1}, {"1@0", "(1,-1+1r)", 0}, {"3@0", "(-1+1r,1)", 0},
		{"2@131072", "(-131072,131072)", 1}, {"2@131072", "(-131072,0)", 0}, {"2@131072", "(-131071,0)", -1}, {"6@-131072", "(131072,131072)", -1},
		{"2@131072", "(131072,-131072)", -1}, {"1@131072+131072r", "(-131072-131072r,131072+131072r)", 1}, {"7@-131072-131072r", "(131072+131072r,131072+131072r)", -1},
	} {
		if got := impl.SideOf(mustLine(t, v.l), mustPoint(t, v.p)); got != v.want {
			t.Errorf("SideOf(%s, %s) is %d", v.l, v.p, got)
		}
	}
}

func TestMeetLines(t *testing.T) {
	for _, v := range []struct {
		a, b string
		want string
		code int64
	}{
		{"1@0", "4@-1", "(1,-1+1r)", impl.OK}, {"0@0", "4@0", "(0,0)", impl.OK}, {"0@3", "4@-2", "(2,3)", impl.OK}, {"2@0", "6@-2", "(1,1)", impl.OK},
		{"2@0", "2@0", "", impl.ErrGeometry}, {"2@0", "2@1", "", impl.ErrGeometry}, {"7@131072", "7@-131072", "", impl.ErrGeometry},
		{"0@131072", "4@-131072", "(131072,131072)", impl.OK}, {"0@131072", "2@0", "(131072,131072)", impl.OK}, {"0@131072", "2@1", "(131071,131072)", impl.OK},
		{"0@131072", "2@-1", "", impl.ErrRange}, {"0@131071", "2@-1", "(131072,131071)", impl.OK}, {"0@131072", "1@-131072", "", impl.ErrRange},
		{"2@1/1024", "6@0", "", impl.ErrRange}, {"2@1/512", "6@0", "(-1/1024,1/1024)", impl.OK}, {"2@1/1024", "6@-1/1024", "(0,1/1024)", impl.OK},
		{"2@131072", "6@-131072", "(0,131072)", impl.OK}, {"2@-131072", "6@-131072", "(131072,0)", impl.OK}, {"2@-131072", "6@-131072-1r", "", impl.ErrRange},
		{"2@1r", "6@-131072-1r", "(65536,65536+1r)", impl.OK}, {"1@0", "2@1", "((-2-1r)/2,-1r/2)", impl.OK},
	} {
		a, b := mustLine(t, v.a), mustLine(t, v.b)
		want := impl.Point{}
		if v.want != "" {
			want = mustPoint(t, v.want)
		}
		got, code := impl.MeetLines(a, b)
		if got != want || code != v.code {
			t.Errorf("MeetLines(%s, %s) is %s, %d, not %q, %d", v.a, v.b, impl.PointText(got), code, v.want, v.code)
		}
		if back, backCode := impl.MeetLines(b, a); back != got || backCode != code {
			t.Errorf("MeetLines(%s, %s) is %v, %d in the other order", v.a, v.b, back, backCode)
		}
	}
}

func TestReflectPoint(t *testing.T) {
	for _, v := range []struct{ l, p, want string }{
		{"1@0", "(1,0)", "(1r/2,1r/2)"}, {"2@0", "(3/2,1r)", "(1r,3/2)"}, {"4@-1", "(5,7)", "(-3,7)"}, {"2@0", "(3,3)", "(3,3)"}, {"0@1", "(4,0)", "(4,2)"},
		{"4@-131071", "(131070,0)", "(131072,0)"}, {"4@-131071", "(131069,0)", ""}, {"4@131072", "(-131072,5)", "(-131072,5)"}, {"4@131072", "(-131071,5)", ""},
		{"0@0", "(0,131072+131072r)", "(0,-131072-131072r)"}, {"2@131072", "(0,0)", "(-131072,131072)"}, {"2@131072", "(1,0)", "(-131072,131073)"},
		{"1@0", "(1/1024,0)", ""}, {"1@0", "(1/512,0)", "(1r/1024,1r/1024)"}, {"2@1/1024", "(0,0)", "(-1/1024,1/1024)"}, {"3@0", "(131072r,0)", "(-131072,131072)"},
	} {
		want, ok := pointTextOracle(v.want)
		got, gotOk := impl.ReflectPoint(mustLine(t, v.l), mustPoint(t, v.p))
		if got != want || gotOk != ok {
			t.Errorf("ReflectPoint(%s, %s) is %s, %v, not %q", v.l, v.p, impl.PointText(got), gotOk, v.want)
		}
	}
}

func TestReflectLine(t *testing.T) {
	for _, v := range []struct{ l, m, want string }{
		{"1@0", "0@0", "2@0"}, {"4@-1", "4@-3", "4@1"}, {"2@0", "0@5", "4@-5"}, {"0@0", "2@1", "6@1"}, {"0@0", "6@-3", "2@-3"}, {"3@0", "5@0", "1@0"}, {"7@0", "0@0", "6@0"},
		{"0@5", "0@5", "0@5"}, {"0@5", "4@7", "4@7"}, {"0@0", "0@131072", "0@-131072"}, {"0@131072", "0@131072", "0@131072"}, {"0@-65536", "0@0", "0@-131072"}, {"0@-65537", "0@0", ""},
		{"1@0", "2@131072", "0@-65536r"}, {"1@0", "0@131072", "2@-131072r"}, {"0@1/1024", "0@0", "0@1/512"}, {"1@0", "2@1/1024", ""}, {"1@0", "0@1/1024", "2@-1r/1024"},
		{"2@0", "0@-131072-131072r", "4@131072+131072r"},
	} {
		want, ok := lineTextOracle(v.want)
		got, gotOk := impl.ReflectLine(mustLine(t, v.l), mustLine(t, v.m))
		if got != want || gotOk != ok {
			t.Errorf("ReflectLine(%s, %s) is %s, %v, not %q", v.l, v.m, impl.LineText(got), gotOk, v.want)
		}
	}
	for l := range int64(impl.LineDirections) {
		for m := range int64(impl.LineDirections) {
			want := []int64{0, 7, 6, 5, 4, 3, 2, 1}[(m-2*l+16)%8]
			if got, ok := impl.ReflectLine(impl.Line{Dir: l}, impl.Line{Dir: m}); !ok || got != (impl.Line{Dir: want}) {
				t.Errorf("a line of the Dir %d reflected in one of the Dir %d is %v, %v", m, l, got, ok)
			}
		}
	}
}

func TestMidPoint(t *testing.T) {
	for _, v := range []struct{ p, q, want string }{
		{"(0,0)", "(1,3)", "(1/2,3/2)"}, {"(0,1)", "(3,1r)", "(3/2,(1+1r)/2)"}, {"(1,2)", "(1,2)", "(1,2)"}, {"(131072,131072)", "(131072,131072)", "(131072,131072)"},
		{"(131072,0)", "(131070,0)", "(131071,0)"}, {"(131072,0)", "(131071,0)", ""}, {"(65536,0)", "(65535,0)", "(131071/2,0)"}, {"(65536,0)", "(65537,0)", ""},
		{"(131072,0)", "(-131072,0)", "(0,0)"}, {"(0,1/1024)", "(0,0)", ""}, {"(0,1/1024)", "(0,1/1024)", "(0,1/1024)"}, {"(0,1/512)", "(0,0)", "(0,1/1024)"},
		{"(131072+131072r,0)", "(131072+131072r,2)", "(131072+131072r,1)"}, {"(1/1024,0)", "(-1/1024,0)", "(0,0)"},
	} {
		want, ok := pointTextOracle(v.want)
		p, q := mustPoint(t, v.p), mustPoint(t, v.q)
		for _, pair := range [][2]impl.Point{{p, q}, {q, p}} {
			if got, gotOk := impl.MidPoint(pair[0], pair[1]); got != want || gotOk != ok {
				t.Errorf("MidPoint(%v) is %s, %v, not %q", pair, impl.PointText(got), gotOk, v.want)
			}
		}
	}
}

func TestPointAndLineTextExamples(t *testing.T) {
	for s, want := range map[string]impl.Point{
		"(0,(1+3r)/4)": {Y: impl.Num{A: 1, B: 3, K: 2}}, "(0,0)": {}, "(-1,1r/2)": {X: impl.Num{A: -1}, Y: impl.Num{B: 1, K: 1}},
		"((1+1r)/2,(1-1r)/1024)": {X: impl.Num{A: 1, B: 1, K: 1}, Y: impl.Num{A: 1, B: -1, K: 10}}, "(131072-131072r,-131072)": {X: impl.Num{A: 131072, B: -131072}, Y: impl.Num{A: -131072}},
	} {
		if got, ok := impl.ReadPoint(s); impl.PointText(want) != s || got != want || !ok {
			t.Errorf("%q is read as %v, %v, and the text of %v is %q", s, got, ok, want, impl.PointText(want))
		}
	}
	for s, want := range map[string]impl.Line{
		"2@3/2": {Dir: 2, Off: impl.Num{A: 3, K: 1}}, "0@0": {}, "7@(1+3r)/4": {Dir: 7, Off: impl.Num{A: 1, B: 3, K: 2}}, "5@-131072r": {Dir: 5, Off: impl.Num{B: -131072}},
	} {
		if got, ok := impl.ReadLine(s); impl.LineText(want) != s || got != want || !ok {
			t.Errorf("%q is read as %v, %v, and the text of %v is %q", s, got, ok, want, impl.LineText(want))
		}
	}
}

func TestPointAndLineTextsThatAreNotCanonical(t *testing.T) {
	for _, s := range []string{
		"", "(", ")", "()", "(,)", "(1)", "(1,)", "(,1)", "(1,2", "1,2)", "1,2", "((1,2))", "(1,2,3)", "(1, 2)", "(1 ,2)", " (1,2)", "(1,2) ", "(1,2)\n", "(01,2)", "(1,-0)", "(2/2,0)",
		"(1;2)", "[1,2]", "(1,2)(3,4)", "((1+1r),0)", "(1+1r/2,0)", "((1+1r)/2)", "(131073,0)", "(0,1/2048)", "(0,+1)", "(0,1R)", "(0,0r)", "\x00(1,2)", "(1,2", "(1,\xff)",
		"(9223372036854775808,0)", "(-9223372036854775808,0)",
	} {
		if p, ok := impl.ReadPoint(s); ok || p != (impl.Point{}) {
			t.Errorf("ReadPoint(%q) is %v, %v", s, p, ok)
		}
	}
	for _, s := range []string{
		"", "@", "1@", "@1", "8@1", "9@1", "-1@0", "00@1", "01@1", "1@01", "22@1", "2 @1", "2@ 1", " 2@1", "2@1 ", "2@1\n", "2@2/4", "2@1@", "2@1@1", "2@@1", "a@1", "/@1", ":@1", "2#1", "21",
		"+2@1", "2@+1", "2@-0", "2@0r", "2@131073", "2@1/2048", "2@(1)", "2@(1+1r)", "\u0662@1", "\xb2@1", "2@9223372036854775808", "2@-9223372036854775808", "9223372036854775808@1", "r@1",
	} {
		if l, ok := impl.ReadLine(s); ok || l != (impl.Line{}) {
			t.Errorf("ReadLine(%q) is %v, %v", s, l, ok)
		}
	}
}

func TestInvalidPointsAndLinesAreRejected(t *testing.T) {
	p, l := mustPoint(t, "(1,2)"), mustLine(t, "2@3/2")
	for _, bad := range invalidPoints() {
		for _, pair := range [][2]impl.Point{{bad, p}, {p, bad}, {bad, bad}} {
			checkPointsRejected(t, pair[0], pair[1])
		}
		for _, m := range append(invalidLines()[:3], l) {
			checkReflectedPointRejected(t, m, bad)
		}
		if _, ok := impl.LineAt(bad, 0); ok || impl.PointText(bad) != "" {
			t.Errorf("%v has a line or a text", bad)
		}
	}
	for _, bad := range invalidLines() {
		for _, pair := range [][2]impl.Line{{bad, l}, {l, bad}, {bad, bad}} {
			checkLinesRejected(t, pair[0], pair[1])
		}
		checkReflectedPointRejected(t, bad, p)
		if impl.LineText(bad) != "" {
			t.Errorf("%v has a text", bad)
		}
	}
}

func checkPointsRejected(t *testing.T, p, q impl.Point) {
	t.Helper()
	line, code := impl.LineThrough(p, q)
	middle, ok := impl.MidPoint(p, q)
	if impl.ComparePoints(p, q) != 0 || impl.DirectionOf(p, q) != -1 || code != impl.ErrInvalid || line != (impl.Line{}) || ok || middle != (impl.Point{}) {
		t.Errorf("%v and %v have the order %d, the direction %d, the line %v, %d and the middle %v, %v", p, q, impl.ComparePoints(p, q), impl.DirectionOf(p, q), line, code, middle, ok)
	}
}

func checkLinesRejected(t *testing.T, a, b impl.Line) {
	t.Helper()
	p, code := impl.MeetLines(a, b)
	l, ok := impl.ReflectLine(a, b)
	if p != (impl.Point{}) || code != impl.ErrInvalid || l != (impl.Line{}) || ok {
		t.Errorf("%v and %v meet in %v, %d, and the reflection is %v, %v", a, b, p, code, l, ok)
	}
}

func checkReflectedPointRejected(t *testing.T, l impl.Line, p impl.Point) {
	t.Helper()
	q, ok := impl.ReflectPoint(l, p)
	if q != (impl.Point{}) || ok || impl.SideOf(l, p) != 0 {
		t.Errorf("%v reflected in %v is %v, %v, and is on the side %d", p, l, q, ok, impl.SideOf(l, p))
	}
}
