package tests

import (
	"fmt"
	"slices"
	"strings"
	"testing"

	"loop.example/g00857/impl"
)

// Promise 1 for chapter 3: every function returns, repeats its result, changes no argument, and keeps
// no memory of one.

// sparePoint fills the unused capacity of arguments, and markedPoint overwrites results.
var (
	sparePoint  = impl.Point{X: impl.Num{A: 77}}
	markedPoint = impl.Point{X: impl.Num{A: -99}, Y: impl.Num{B: -99}}
)

// guard returns a copy of list with some unused capacity, which is filled with spare, and a function
// that reports whether both are unchanged.
func guard[T comparable](list []T, spare T) ([]T, func() bool) {
	whole := slices.Concat(list, slices.Repeat([]T{spare}, 20))
	before := slices.Clone(whole)
	return whole[:len(list)], func() bool { return slices.Equal(whole, before) }
}

// overwrite fills a result and its unused capacity with marked.
func overwrite[T any](list []T, marked T) {
	whole := list[:cap(list)]
	for i := range whole {
		whole[i] = marked
	}
}

// polygonCall calls a function of chapter 3 with polygons, and returns the returned lists and a
// description of all results.
type polygonCall func(a, b []impl.Point) ([][]impl.Point, string)

func polygonCalls(l impl.Line, p, q impl.Point) map[string]polygonCall {
	return map[string]polygonCall{
		"NormalPolygon": func(a, b []impl.Point) ([][]impl.Point, string) {
			normal, ok := impl.NormalPolygon(a)
			return [][]impl.Point{normal}, fmt.Sprint(normal, ok)
		},
		"CutPolygon": func(a, b []impl.Point) ([][]impl.Point, string) {
			left, right, code := impl.CutPolygon(a, l)
			return [][]impl.Point{left, right}, fmt.Sprint(left, right, code)
		},
		"IntersectPolygons": func(a, b []impl.Point) ([][]impl.Point, string) {
			common, code := impl.IntersectPolygons(a, b)
			return [][]impl.Point{common}, fmt.Sprint(common, code)
		},
		"ReadPolygon": func(a, b []impl.Point) ([][]impl.Point, string) {
			list, ok := impl.ReadPolygon(impl.PolygonText(a))
			return [][]impl.Point{list}, fmt.Sprint(list, ok, impl.PolygonText(a))
		},
		"the others": func(a, b []impl.Point) ([][]impl.Point, string) {
			return nil, fmt.Sprint(impl.ValidPolygon(a), impl.SamePolygon(a, b), impl.InPolygon(a, p), impl.OverlapPolygons(a, b), impl.CrossesPolygon(a, p, q))
		},
	}
}

func checkPure(t *testing.T, name string, call polygonCall, a, b []impl.Point) {
	t.Helper()
	first, firstKept := guard(a, sparePoint)
	second, secondKept := guard(b, sparePoint)
	lists, want := call(first, second)
	for i, list := range lists {
		others := slices.Concat(slices.Concat(lists[:i]...), slices.Concat(lists[i+1:]...))
		overwrite(list, markedPoint)
		if !slices.Equal(others, slices.Concat(slices.Concat(lists[:i]...), slices.Concat(lists[i+1:]...))) {
			t.Errorf("%s: result %d shares memory with another one for %v and %v", name, i, a, b)
		}
	}
	if !firstKept() || !secondKept() {
		t.Errorf("%s changes an argument, or a result shares its memory, for %v and %v", name, a, b)
	}
	if _, got := call(slices.Clone(a), slices.Clone(b)); got != want {
		t.Errorf("%s: the results for %v and %v are %s and %s", name, a, b, want, got)
	}
	// One list as both arguments.
	whole, kept := guard(a, sparePoint)
	if lists, _ := call(whole, whole); len(lists) > 0 {
		overwrite(lists[0], markedPoint)
	}
	if !kept() {
		t.Errorf("%s changes an argument, or a result shares its memory, for twice %v", name, a)
	}
}

func TestPromise1PolygonsAreNotChangedOrShared(t *testing.T) {
	polygons := somePolygons(t, 40)
	for i, a := range polygons {
		b := polygons[(i*7+1)%len(polygons)]
		lines, points := linesLike(a), pointsLike(a)
		for j, variant := range append(listsLike(a), a, a, a) {
			calls := polygonCalls(lines[j%len(lines)], points[j%len(points)], points[(j*3+1)%len(points)])
			for name, call := range calls {
				checkPure(t, name, call, variant, b)
				checkPure(t, name, call, b, variant)
			}
		}
	}
	for side := range int64(5) {
		square, _ := impl.SquarePaper(side)
		again, _ := impl.SquarePaper(side)
		overwrite(square, markedPoint)
		if once, _ := impl.SquarePaper(side); !slices.Equal(again, once) {
			t.Errorf("two results of SquarePaper(%d) share memory", side)
		}
	}
}

func TestPromise1PolygonsReturnForAllArguments(t *testing.T) {
	nums := slices.Concat(wildNums(), invalidNums(), someNums(), someNums(), someNums(), someNums())
	dirs := wildDirections()
	state := uint64(9)
	anyNum := func() impl.Num { return nums[nextRandom(&state, uint64(len(nums)))] }
	anyPoint := func() impl.Point { return impl.Point{X: anyNum(), Y: anyNum()} }
	polygons := somePolygons(t, 40)
	anyList := func() []impl.Point {
		list := slices.Clone(polygons[nextRandom(&state, uint64(len(polygons)))])
		for range nextRandom(&state, 3) {
			list = slices.Insert(list, int(nextRandom(&state, uint64(len(list)+1))), anyPoint())
		}
		return list
	}
	for range 4000 {
		l := impl.Line{Dir: dirs[nextRandom(&state, uint64(len(dirs)))], Off: anyNum()}
		a, b := anyList(), anyList()
		for name, call := range polygonCalls(l, anyPoint(), anyPoint()) {
			_, first := call(a, b)
			if _, second := call(a, b); first != second {
				t.Errorf("%s: the results for %v, %v and %v are %s and %s", name, a, b, l, first, second)
			}
		}
	}
}

func TestPromise1PolygonTextsReturnForAllArguments(t *testing.T) {
	for _, s := range []string{" ", "(", "(0,0)", "(0,0) ", " (1,1)", "(0,0) (2,0) (2,2) ", "1", "\xff"} {
		for _, count := range []int{1, 2, 3, 16, 17, 1000, 50000} {
			checkPolygonText(t, strings.Repeat(s, count))
		}
	}
}

func checkPolygonText(t *testing.T, s string) {
	t.Helper()
	want, wantOk := polygonTextOracle(s)
	for range 2 {
		if got, ok := impl.ReadPolygon(s); !slices.Equal(got, want) || ok != wantOk {
			t.Errorf("ReadPolygon(%.200q) is %v, %v, not %v, %v", s, got, ok, want, wantOk)
		}
	}
}

func TestPolygonTextsAreReadBack(t *testing.T) {
	for i, list := range somePolygons(t, 60) {
		s := impl.PolygonText(list)
		if got, ok := impl.ReadPolygon(s); !ok || !slices.Equal(got, list) {
			t.Errorf("%q of %v is read as %v, %v", s, list, got, ok)
		}
		if i%6 == 0 {
			forEachChange(s, "012-+r/(), ", func(s string) { checkPolygonText(t, s) })
		}
	}
}

// Promise 4: the parts of a cut polygon make it up; an intersection contains exactly the common points.

func TestPromise4PointsAreInsideOrNot(t *testing.T) {
	for _, list := range somePolygons(t, 60) {
		ring := exactRing(list)
		for _, p := range append(pointsLike(list), somePoints()...) {
			if got, want := impl.InPolygon(list, p), inOracle(ring, exactPointOf(p)); got != want {
				t.Errorf("InPolygon(%v, %v) is %d, not %d", list, p, got, want)
			}
		}
	}
}

func TestPromise4PartsMakeUpThePolygon(t *testing.T) {
	counts := map[int64]int{}
	for _, list := range somePolygons(t, 90) {
		for _, l := range linesLike(list) {
			counts[checkCut(t, list, l)]++
		}
	}
	if counts[impl.OK] < 1000 || counts[impl.ErrRange] < 20 {
		t.Errorf("the numbers of cuts by their codes are %v", counts)
	}
}

// checkCut cuts a polygon and returns the code.
func checkCut(t *testing.T, list []impl.Point, l impl.Line) int64 {
	t.Helper()
	left, right, code := impl.CutPolygon(list, l)
	ring := exactRing(list)
	wantLeft, leftOk := validRing(halfOracle(ring, exactLineOf(l), 1))
	wantRight, rightOk := validRing(halfOracle(ring, exactLineOf(l), -1))
	if !leftOk || !rightOk {
		if code != impl.ErrRange || len(left) != 0 || len(right) != 0 {
			t.Errorf("CutPolygon(%v, %v) is %v, %v, %d, but a corner of a part is not valid", list, l, left, right, code)
		}
		return code
	}
	if code != impl.OK || !slices.Equal(left, wantLeft) || !slices.Equal(right, wantRight) {
		t.Errorf("CutPolygon(%v, %v) is %v, %v, %d, not %v, %v", list, l, left, right, code, wantLeft, wantRight)
	}
	if !areaOracle(exactRing(left)).sum(areaOracle(exactRing(right))).equals(areaOracle(ring)) {
		t.Errorf("%v and %v do not have the area of %v", left, right, list)
	}
	for _, part := range [][]impl.Point{left, right} {
		if len(part) != 0 && !impl.ValidPolygon(part) {
			t.Errorf("the part %v of %v is no polygon", part, list)
		}
	}
	for _, p := range slices.Concat(list, left, right, pointsLike(list)[:len(list)*3]) {
		checkPointOfParts(t, list, left, right, l, p)
	}
	return code
}

// checkPointOfParts checks that a point of a polygon is in the part on its side of the line, and that
// no other point is in a part.
func checkPointOfParts(t *testing.T, list, left, right []impl.Point, l impl.Line, p impl.Point) {
	t.Helper()
	in, inLeft, inRight := impl.InPolygon(list, p), impl.InPolygon(left, p), impl.InPolygon(right, p)
	wantLeft, wantRight := int64(-1), int64(-1)
	switch impl.SideOf(l, p) {
	case 1:
		wantLeft = in
	case -1:
		wantRight = in
	default:
		wantLeft, wantRight = min(in, 0), min(in, 0)
	}
	if len(left) == 0 {
		wantLeft = -1
	}
	if len(right) == 0 {
		wantRight = -1
	}
	if inLeft != wantLeft || inRight != wantRight {
		t.Errorf("%v is at the places %d, %d and %d of %v and the parts %v and %v", p, in, inLeft, inRight, list, left, right)
	}
}

func TestPromise4IntersectionsContainTheCommonPoints(t *testing.T) {
	counts := map[int64]int{}
	polygons := somePolygons(t, 60)
	for i, a := range polygons {
		for _, b := range polygons[:i+1] {
			counts[checkIntersection(t, a, b)]++
		}
	}
	if counts[impl.OK] < 500 || counts[impl.ErrRange] < 5 {
		t.Errorf("the numbers of intersections by their codes are %v", counts)
	}
}

// checkIntersection intersects two polygons and returns the code.
func checkIntersection(t *testing.T, a, b []impl.Point) int64 {
	t.Helper()
	ring := commonOracle(exactRing(a), exactRing(b))
	want, ok := validRing(ring)
	got, code := impl.IntersectPolygons(a, b)
	if !slices.Equal(got, want) || (code == impl.OK) != ok || !ok && code != impl.ErrRange {
		t.Errorf("IntersectPolygons(%v, %v) is %v, %d, not %v, %v", a, b, got, code, want, ok)
	}
	if back, backCode := impl.IntersectPolygons(b, a); !slices.Equal(back, got) || backCode != code {
		t.Errorf("IntersectPolygons(%v, %v) is %v, %d", b, a, back, backCode)
	}
	if overlap := len(ring) > 0; impl.OverlapPolygons(a, b) != overlap || impl.OverlapPolygons(b, a) != overlap {
		t.Errorf("OverlapPolygons(%v, %v) is %v", a, b, !overlap)
	}
	if code != impl.OK {
		return code
	}
	for _, p := range slices.Concat(got, pointsLike(a)[:3*len(a)], pointsLike(b)[:3*len(b)]) {
		in, both := impl.InPolygon(got, p), min(impl.InPolygon(a, p), impl.InPolygon(b, p))
		// Polygons that only touch have common points, but their intersection has no inside.
		if in != both && (len(got) > 0 || both == 1) {
			t.Errorf("%v is at the place %d of the intersection %v, and at the place %d of %v and %v", p, in, got, both, a, b)
		}
	}
	return code
}

func TestPromise4SegmentsCross(t *testing.T) {
	crossing, all := 0, 0
	for _, list := range somePolygons(t, 40) {
		ring, points := exactRing(list), pointsLike(list)
		for i, p := range points[:min(len(points), 20)] {
			for j := range int64(impl.Directions) {
				q, ok := exactPointOf(p).sum(vectorOracle(j).scaled(exactParts(int64(i%3)*3+1, 0, int64(i%2)))).valid()
				if !ok || i%7 == 3 {
					q = points[(i*11+int(j))%len(points)]
				}
				want := directionOracle(p, q) >= 0 && crossesOracle(ring, exactPointOf(p), exactPointOf(q))
				if got := impl.CrossesPolygon(list, p, q); got != want {
					t.Errorf("CrossesPolygon(%v, %v, %v) is %v", list, p, q, got)
				}
				all++
				if want {
					crossing++
				}
			}
		}
	}
	if crossing < 100 || all-crossing < 100 {
		t.Errorf("%d of %d segments cross", crossing, all)
	}
}
