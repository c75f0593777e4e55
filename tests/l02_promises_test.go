package tests

import (
	"fmt"
	"slices"
	"strings"
	"testing"

	"loop.example/g00857/impl"
)

// Promise 1 for chapter 2, whose arguments are values: every function returns, and repeats its result.

func lineResults(p, q impl.Point, l, m impl.Line, d int64) string {
	vector := impl.DirVector(d)
	at, atOk := impl.LineAt(p, d)
	through, throughCode := impl.LineThrough(p, q)
	meet, meetCode := impl.MeetLines(l, m)
	point, pointOk := impl.ReflectPoint(l, p)
	line, lineOk := impl.ReflectLine(l, m)
	middle, middleOk := impl.MidPoint(p, q)
	return fmt.Sprint(impl.ValidPoint(p), impl.ValidLine(l), impl.ComparePoints(p, q), vector, impl.DirectionOf(p, q), at, atOk, through, throughCode,
		impl.SideOf(l, p), meet, meetCode, point, pointOk, line, lineOk, middle, middleOk, impl.PointText(p), impl.LineText(l))
}

func TestPromise1LinesReturnForAllArguments(t *testing.T) {
	nums := slices.Concat(wildNums(), invalidNums(), someNums(), someNums(), someNums())
	dirs := wildDirections()
	state := uint64(5)
	anyNum := func() impl.Num { return nums[nextRandom(&state, uint64(len(nums)))] }
	anyDir := func() int64 { return dirs[nextRandom(&state, uint64(len(dirs)))] }
	for range 40000 {
		p, q := impl.Point{X: anyNum(), Y: anyNum()}, impl.Point{X: anyNum(), Y: anyNum()}
		l, m := impl.Line{Dir: anyDir(), Off: anyNum()}, impl.Line{Dir: anyDir(), Off: anyNum()}
		d := anyDir()
		if lineResults(p, q, l, m, d) != lineResults(p, q, l, m, d) {
			t.Errorf("the results for %v, %v, %v, %v, %d differ", p, q, l, m, d)
		}
	}
}

func TestPromise1LineTextsReturnForAllArguments(t *testing.T) {
	for _, s := range []string{"(", ")", ",", "@", "1", "(1,", "1,2)", "(1,2)", "2@", "2@1", "-", "\xff", "\u221a", " ", "r"} {
		for _, count := range []int{1, 2, 3, 25, 1000, 100000} {
			text := strings.Repeat(s, count)
			checkPointText(t, text)
			checkLineText(t, text)
		}
	}
}

// checkPointText reads a text twice and compares with the grammar.
func checkPointText(t *testing.T, s string) {
	t.Helper()
	want, wantOk := pointTextOracle(s)
	for range 2 {
		if got, ok := impl.ReadPoint(s); got != want || ok != wantOk {
			t.Errorf("ReadPoint(%q) is %v, %v, not %v, %v", s, got, ok, want, wantOk)
		}
	}
}

func checkLineText(t *testing.T, s string) {
	t.Helper()
	want, wantOk := lineTextOracle(s)
	for range 2 {
		if got, ok := impl.ReadLine(s); got != want || ok != wantOk {
			t.Errorf("ReadLine(%q) is %v, %v, not %v, %v", s, got, ok, want, wantOk)
		}
	}
}

// Promise 3: common points of lines are on both; reflections are involutions that keep lines and
// directions.

func TestPromise3LinesContainTheirPoints(t *testing.T) {
	for _, p := range somePoints() {
		for dir := range int64(impl.LineDirections) {
			want, wantOk := lineOracle(exactPointOf(p), dir)
			got, ok := impl.LineAt(p, dir)
			if got != want || ok != wantOk {
				t.Errorf("LineAt(%v, %d) is %v, %v, not %v, %v", p, dir, got, ok, want, wantOk)
			}
			if ok && impl.SideOf(got, p) != 0 {
				t.Errorf("%v is on the side %d of its line %v", p, impl.SideOf(got, p), got)
			}
		}
	}
}

func TestPromise3LinesThroughPointsContainThem(t *testing.T) {
	list := somePoints()
	for _, p := range list {
		for _, q := range list {
			checkLineThrough(t, p, q)
		}
		for d := range int64(impl.Directions) {
			for _, factor := range []exact{exactParts(1, 0, 0), exactParts(-5, 7, 3), exactParts(65536, 0, 0)} {
				if q, ok := exactPointOf(p).sum(vectorOracle(d).scaled(factor)).valid(); ok {
					checkLineThrough(t, p, q)
				}
			}
		}
	}
}

func checkLineThrough(t *testing.T, p, q impl.Point) {
	t.Helper()
	want, code := impl.Line{}, int64(impl.ErrGeometry)
	if d := directionOracle(p, q); d >= 0 {
		line, ok := lineOracle(exactPointOf(p), d%8)
		want, code = line, impl.ErrRange
		if ok {
			code = impl.OK
		}
	}
	got, gotCode := impl.LineThrough(p, q)
	if got != want || gotCode != code {
		t.Errorf("LineThrough(%v, %v) is %v, %d, not %v, %d", p, q, got, gotCode, want, code)
	}
	if gotCode == impl.OK && (impl.SideOf(got, p) != 0 || impl.SideOf(got, q) != 0) {
		t.Errorf("the line %v through %v and %v does not contain them", got, p, q)
	}
}

func TestPromise3CommonPointsAreOnBothLines(t *testing.T) {
	list := someLines()
	for _, a := range list {
		for _, b := range list {
			got, code := impl.MeetLines(a, b)
			if a.Dir == b.Dir {
				if got != (impl.Point{}) || code != impl.ErrGeometry {
					t.Errorf("the parallels %v and %v meet in %v, %d", a, b, got, code)
				}
				continue
			}
			want, ok := meetOracle(a, b).valid()
			if got != want || (code == impl.OK) != ok || !ok && code != impl.ErrRange {
				t.Errorf("%v and %v meet in %v, %d, not %v, %v", a, b, got, code, want, ok)
			}
			if code == impl.OK && (impl.SideOf(a, got) != 0 || impl.SideOf(b, got) != 0) {
				t.Errorf("the common point %v of %v and %v is not on both", got, a, b)
			}
		}
	}
}

func TestPromise3SidesAreExact(t *testing.T) {
	for _, l := range someLines() {
		for _, p := range somePoints() {
			if got, want := impl.SideOf(l, p), sideOracle(l, exactPointOf(p)); got != want {
				t.Errorf("SideOf(%v, %v) is %d, not %d", l, p, got, want)
			}
		}
	}
}

func TestPromise3ReflectionsOfPointsAreInvolutions(t *testing.T) {
	reflected := 0
	for _, l := range someLines() {
		for _, p := range somePoints() {
			want, wantOk := reflectOracle(l, exactPointOf(p)).valid()
			got, ok := impl.ReflectPoint(l, p)
			if got != want || ok != wantOk {
				t.Errorf("ReflectPoint(%v, %v) is %v, %v, not %v, %v", l, p, got, ok, want, wantOk)
			}
			if ok {
				reflected++
				checkReflectedPoint(t, l, p, got)
			}
		}
	}
	if reflected < 1000 {
		t.Errorf("only %d points have a valid reflection", reflected)
	}
}

func checkReflectedPoint(t *testing.T, l impl.Line, p, q impl.Point) {
	t.Helper()
	if back, ok := impl.ReflectPoint(l, q); !ok || back != p {
		t.Errorf("%v reflected twice in %v is %v, %v", p, l, back, ok)
	}
	if impl.SideOf(l, p) != -impl.SideOf(l, q) || (impl.SideOf(l, p) == 0) != (p == q) {
		t.Errorf("%v and its reflection %v in %v are on the sides %d and %d", p, q, l, impl.SideOf(l, p), impl.SideOf(l, q))
	}
	if middle, ok := impl.MidPoint(p, q); ok && impl.SideOf(l, middle) != 0 {
		t.Errorf("the middle %v of %v and its reflection %v is not on %v", middle, p, q, l)
	}
	if d := impl.DirectionOf(p, q); p != q && d%8 != (l.Dir+4)%8 {
		t.Errorf("from %v to its reflection %v in %v the direction is %d", p, q, l, d)
	}
}

func TestPromise3ReflectionsOfLinesAreInvolutions(t *testing.T) {
	reflected := 0
	for _, l := range someLines() {
		for _, m := range someLines() {
			dir := []int64{0, 7, 6, 5, 4, 3, 2, 1}[(m.Dir-2*l.Dir+16)%8]
			want, wantOk := lineOracle(reflectOracle(l, footOracle(m)), dir)
			got, ok := impl.ReflectLine(l, m)
			if got != want || ok != wantOk {
				t.Errorf("ReflectLine(%v, %v) is %v, %v, not %v, %v", l, m, got, ok, want, wantOk)
			}
			if !ok {
				continue
			}
			reflected++
			if back, backOk := impl.ReflectLine(l, got); !backOk || back != m {
				t.Errorf("%v reflected twice in %v is %v, %v", m, l, back, backOk)
			}
			if a, code := impl.MeetLines(l, m); code == impl.OK && impl.SideOf(got, a) != 0 {
				t.Errorf("%v reflected in %v is %v, which does not contain the common point %v", m, l, got, a)
			}
		}
	}
	if reflected < 1000 {
		t.Errorf("only %d lines have a valid reflection", reflected)
	}
}

func TestPromise3ReflectionsKeepLinesAndDirections(t *testing.T) {
	kept := 0
	for _, l := range someLines() {
		for d := range int64(impl.Directions) {
			p := impl.Point{X: impl.Num{A: 3}, Y: impl.Num{A: 1, B: 1}}
			q, _ := exactPointOf(p).sum(vectorOracle(d)).valid()
			kept += checkReflectedDirection(t, l, p, q, d)
		}
	}
	if kept < 1000 {
		t.Errorf("only %d ways have a valid reflection", kept)
	}
}

// checkReflectedDirection reflects a way with the direction d and its line, and returns 1 if all of
// that is valid, and 0 otherwise.
func checkReflectedDirection(t *testing.T, l impl.Line, p, q impl.Point, d int64) int {
	t.Helper()
	line, _ := impl.LineThrough(p, q)
	mirrored, lineOk := impl.ReflectLine(l, line)
	a, aOk := impl.ReflectPoint(l, p)
	b, bOk := impl.ReflectPoint(l, q)
	if !lineOk || !aOk || !bOk {
		return 0
	}
	if got := impl.DirectionOf(a, b); got != (2*l.Dir-d+16)%16 {
		t.Errorf("the direction %d reflected in %v is %d", d, l, got)
	}
	if through, code := impl.LineThrough(a, b); code != impl.OK || through != mirrored || impl.SideOf(mirrored, a) != 0 || impl.SideOf(mirrored, b) != 0 {
		t.Errorf("the line %v reflected in %v is %v, but its points are on %v, %d", line, l, mirrored, through, code)
	}
	return 1
}

func TestPromise3MiddlesAreExact(t *testing.T) {
	list := somePoints()
	half := exactParts(1, 0, 1)
	for _, p := range list {
		for _, q := range list {
			want, wantOk := exactPointOf(p).sum(exactPointOf(q)).scaled(half).valid()
			if got, ok := impl.MidPoint(p, q); got != want || ok != wantOk {
				t.Errorf("MidPoint(%v, %v) is %v, %v, not %v, %v", p, q, got, ok, want, wantOk)
			}
		}
	}
}

func TestTextsOfPointsAndLinesAreReadBack(t *testing.T) {
	for i, p := range somePoints() {
		s := impl.PointText(p)
		if got, ok := impl.ReadPoint(s); !ok || got != p {
			t.Errorf("%q of %v is read as %v, %v", s, p, got, ok)
		}
		if i%5 == 0 {
			forEachChange(s, "0129+-r/(), @", func(s string) { checkPointText(t, s) })
		}
	}
	for i, l := range someLines() {
		s := impl.LineText(l)
		if got, ok := impl.ReadLine(s); !ok || got != l {
			t.Errorf("%q of %v is read as %v, %v", s, l, got, ok)
		}
		if i%5 == 0 {
			forEachChange(s, "0178+-r/(), @", func(s string) { checkLineText(t, s) })
		}
	}
}

// forEachChange calls check with all texts that differ from s in one byte, which is removed, or
// replaced or preceded by one of those given.
func forEachChange(s, bytes string, check func(s string)) {
	for i := range len(s) + 1 {
		for _, c := range []byte(bytes) {
			check(s[:i] + string(c) + s[i:])
			if i < len(s) {
				check(s[:i] + string(c) + s[i+1:])
			}
		}
		if i < len(s) {
			check(s[:i] + s[i+1:])
		}
	}
}
