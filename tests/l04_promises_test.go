package tests

import (
	"fmt"
	"slices"
	"testing"

	"loop.example/g00857/impl"
)

// Promise 1 for chapter 4: every function returns, repeats its result, changes no argument, and keeps
// no memory of one.

func motionResults(m, n impl.Motion, p impl.Point, l impl.Line, d int64, list []impl.Point) string {
	point, pointOk := impl.MovePoint(m, p)
	line, lineOk := impl.MoveLine(m, l)
	polygon, polygonOk := impl.MovePolygon(m, list)
	both, bothOk := impl.Compose(m, n)
	inverse, inverseOk := impl.Invert(m)
	reflection, reflectionOk := impl.Reflection(l)
	return fmt.Sprint(impl.ValidMotion(m), point, pointOk, impl.MoveDirection(m, d), line, lineOk, polygon, polygonOk, both, bothOk, inverse, inverseOk, reflection, reflectionOk, impl.MotionText(m))
}

func TestPromise1MotionsReturnForAllArguments(t *testing.T) {
	nums := slices.Concat(wildNums(), invalidNums(), slices.Repeat(someNums(), 60))
	turns := slices.Concat(wildDirections(), slices.Repeat([]int64{0, 1, 2, 3, 4, 5, 6, 7}, 20))
	polygons := somePolygons(t, 40)
	state := uint64(13)
	anyNum := func() impl.Num { return nums[nextRandom(&state, uint64(len(nums)))] }
	anyTurn := func() int64 { return turns[nextRandom(&state, uint64(len(turns)))] }
	anyMotion := func() impl.Motion {
		return impl.Motion{Turn: anyTurn(), Flip: nextRandom(&state, 2) == 0, X: anyNum(), Y: anyNum()}
	}
	for i := range 20000 {
		m, n := anyMotion(), anyMotion()
		p, l, d := impl.Point{X: anyNum(), Y: anyNum()}, impl.Line{Dir: anyTurn(), Off: anyNum()}, anyTurn()
		list := slices.Clone(polygons[i%len(polygons)])
		if i%3 == 0 {
			list = slices.Insert(list, i%len(list), p)
		}
		if motionResults(m, n, p, l, d, list) != motionResults(m, n, p, l, d, list) {
			t.Errorf("the results for %v, %v, %v, %v, %d, %v differ", m, n, p, l, d, list)
		}
	}
}

func TestPromise1MovedPolygonsAreNotChangedOrShared(t *testing.T) {
	for i, list := range somePolygons(t, 40) {
		for _, m := range append(linearParts(), mustMotion(t, "r0 (131072,0)"), impl.Motion{Turn: 8}) {
			for _, variant := range append(listsLike(list)[:min(8, i+1)], list) {
				checkMovedPure(t, m, variant)
			}
		}
	}
}

func checkMovedPure(t *testing.T, m impl.Motion, list []impl.Point) {
	t.Helper()
	argument, kept := guard(list, sparePoint)
	first, firstOk := impl.MovePolygon(m, argument)
	second, secondOk := impl.MovePolygon(m, argument)
	want := slices.Clone(second)
	if !slices.Equal(first, second) || firstOk != secondOk {
		t.Errorf("%v moves %v to %v, %v and to %v, %v", m, list, first, firstOk, second, secondOk)
	}
	overwrite(first, markedPoint)
	if !kept() || !slices.Equal(second, want) {
		t.Errorf("%v moves %v to a list that shares its memory or that of another result, or changes it", m, list)
	}
}

// Promise 5: motions compose, are inverted, move points, directions, lines and polygons alike; a
// reflection moves points as the reflection in its line.

func TestPromise5MotionsCompose(t *testing.T) {
	counts := map[bool]int{}
	list := someMotions(t)
	for i, first := range list {
		for j, second := range list {
			if (i+j)%3 != 0 {
				continue
			}
			want, wantOk := composeOracle(first, second)
			got, ok := impl.Compose(first, second)
			if got != want || ok != wantOk {
				t.Errorf("Compose(%v, %v) is %v, %v, not %v, %v", first, second, got, ok, want, wantOk)
			}
			counts[ok]++
			if ok {
				checkComposed(t, first, second, got)
			}
		}
	}
	if counts[true] < 1000 || counts[false] < 1000 {
		t.Errorf("the numbers of compositions with and without a valid result are %v", counts)
	}
}

// checkComposed checks that both moves everything as first and then second.
func checkComposed(t *testing.T, first, second, both impl.Motion) {
	t.Helper()
	for _, s := range []string{"(0,0)", "(1,0)", "(-1/2,1+1r)", "(3r,-7)"} {
		p := mustPoint(t, s)
		between, betweenOk := impl.MovePoint(first, p)
		want, wantOk := impl.MovePoint(second, between)
		if got, ok := impl.MovePoint(both, p); betweenOk && (got != want || ok != wantOk) {
			t.Errorf("%v, which is %v and then %v, moves %v to %v, %v, not %v, %v", both, first, second, p, got, ok, want, wantOk)
		}
	}
	for d := range int64(impl.Directions) {
		if want := impl.MoveDirection(second, impl.MoveDirection(first, d)); impl.MoveDirection(both, d) != want {
			t.Errorf("%v, which is %v and then %v, moves the direction %d to %d", both, first, second, d, impl.MoveDirection(both, d))
		}
	}
	for dir := range int64(impl.LineDirections) {
		l := impl.Line{Dir: dir, Off: impl.Num{A: 1, B: -3, K: 1}}
		between, betweenOk := impl.MoveLine(first, l)
		want, wantOk := impl.MoveLine(second, between)
		if got, ok := impl.MoveLine(both, l); betweenOk && (got != want || ok != wantOk) {
			t.Errorf("%v, which is %v and then %v, moves %v to %v, %v, not %v, %v", both, first, second, l, got, ok, want, wantOk)
		}
	}
}

func TestPromise5CompositionIsAssociative(t *testing.T) {
	list := someMotions(t)
	checked := 0
	for i, a := range list {
		for j, b := range list {
			c := list[(i*7+j*5+1)%len(list)]
			ab, abOk := impl.Compose(a, b)
			bc, bcOk := impl.Compose(b, c)
			left, leftOk := impl.Compose(ab, c)
			right, rightOk := impl.Compose(a, bc)
			if !abOk || !bcOk {
				continue
			}
			if left != right || leftOk != rightOk {
				t.Errorf("%v, %v and %v compose to %v, %v and to %v, %v", a, b, c, left, leftOk, right, rightOk)
			}
			checked++
		}
		left, leftOk := impl.Compose(impl.Identity(), a)
		right, rightOk := impl.Compose(a, impl.Identity())
		if left != a || right != a || !leftOk || !rightOk {
			t.Errorf("the identity is not neutral for %v", a)
		}
	}
	if checked < 1000 {
		t.Errorf("only %d triples compose", checked)
	}
}

func TestPromise5MotionsAreInverted(t *testing.T) {
	counts := map[bool]int{}
	for _, m := range someMotions(t) {
		want, wantOk := invertOracle(m)
		inverse, ok := impl.Invert(m)
		if inverse != want || ok != wantOk {
			t.Errorf("the inverse of %v is %v, %v, not %v, %v", m, inverse, ok, want, wantOk)
		}
		counts[ok]++
		if ok {
			checkInverse(t, m, inverse)
		}
	}
	if counts[true] < 100 || counts[false] < 20 {
		t.Errorf("the numbers of motions with and without a valid inverse are %v", counts)
	}
}

func checkInverse(t *testing.T, m, inverse impl.Motion) {
	t.Helper()
	for _, pair := range [][2]impl.Motion{{m, inverse}, {inverse, m}} {
		if none, ok := impl.Compose(pair[0], pair[1]); !ok || none != impl.Identity() {
			t.Errorf("%v and then %v is %v, %v", pair[0], pair[1], none, ok)
		}
	}
	if back, ok := impl.Invert(inverse); !ok || back != m {
		t.Errorf("%v inverted twice is %v, %v", m, back, ok)
	}
	for _, p := range somePoints() {
		place, placeOk := impl.MovePoint(m, p)
		if back, ok := impl.MovePoint(inverse, place); placeOk && (!ok || back != p) {
			t.Errorf("%v moves %v to %v, and its inverse moves that to %v, %v", m, p, place, back, ok)
		}
	}
	for d := range int64(impl.Directions) {
		if impl.MoveDirection(inverse, impl.MoveDirection(m, d)) != d {
			t.Errorf("%v and its inverse %v move the direction %d to %d", m, inverse, d, impl.MoveDirection(inverse, impl.MoveDirection(m, d)))
		}
	}
}

func TestPromise5PointsAndLinesAreMovedAlike(t *testing.T) {
	counts := map[bool]int{}
	points, lines := somePoints(), someLines()
	for _, m := range someMotions(t) {
		for _, p := range points {
			want, wantOk := movePointOracle(m, p)
			if got, ok := impl.MovePoint(m, p); got != want || ok != wantOk {
				t.Errorf("MovePoint(%v, %v) is %v, %v, not %v, %v", m, p, got, ok, want, wantOk)
			}
		}
		for i, l := range lines {
			want, wantOk := moveLineOracle(m, l)
			got, ok := impl.MoveLine(m, l)
			if got != want || ok != wantOk {
				t.Errorf("MoveLine(%v, %v) is %v, %v, not %v, %v", m, l, got, ok, want, wantOk)
			}
			counts[ok]++
			if ok {
				checkMovedSides(t, m, l, got, points[i%7:i%7+12])
			}
		}
	}
	if counts[true] < 1000 || counts[false] < 1000 {
		t.Errorf("the numbers of lines with and without a valid place are %v", counts)
	}
}

// checkMovedSides checks that the places of points are on the moved line exactly if the points are on
// the line, and that points on one side of it remain on one side.
func checkMovedSides(t *testing.T, m impl.Motion, l, moved impl.Line, points []impl.Point) {
	t.Helper()
	products := map[int64]bool{}
	for _, p := range points {
		place, ok := impl.MovePoint(m, p)
		before, after := impl.SideOf(l, p), impl.SideOf(moved, place)
		if ok && (before == 0) != (after == 0) {
			t.Errorf("%v moves %v to %v and %v to %v", m, l, moved, p, place)
		}
		if ok && before != 0 {
			products[before*after] = true
		}
	}
	if len(products) > 1 {
		t.Errorf("%v moves %v to %v, but points on one side of it to both sides", m, l, moved)
	}
}

func TestPromise5DirectionsAreMovedAlike(t *testing.T) {
	p := mustPoint(t, "(3,1+1r)")
	checked := 0
	for _, m := range someMotions(t) {
		for d := range int64(impl.Directions) {
			q, _ := exactPointOf(p).sum(vectorOracle(d).scaled(exactParts(2, 1, 0))).valid()
			a, aOk := impl.MovePoint(m, p)
			b, bOk := impl.MovePoint(m, q)
			moved := impl.MoveDirection(m, d)
			if moved != moveDirectionOracle(m, d) || aOk && bOk && impl.DirectionOf(a, b) != moved {
				t.Errorf("%v moves the direction %d to %d, but points with it to points with %d", m, d, moved, impl.DirectionOf(a, b))
			}
			before, _ := impl.LineThrough(p, q)
			line, lineOk := impl.MoveLine(m, before)
			through, code := impl.LineThrough(a, b)
			if !aOk || !bOk || !lineOk && code != impl.OK {
				continue
			}
			if through != line || line.Dir != moved%8 {
				t.Errorf("%v moves %v to %v, but two of its points to points of %v, %d", m, before, line, through, code)
			}
			checked++
		}
	}
	if checked < 1000 {
		t.Errorf("only %d directions are checked", checked)
	}
}

func TestPromise5PolygonsAreMovedAlike(t *testing.T) {
	counts := map[bool]int{}
	motions := someMotions(t)
	for _, list := range somePolygons(t, 40) {
		points := append(slices.Clone(list), pointsLike(list)[:len(list)]...)
		for _, m := range motions {
			want, wantOk := movePolygonOracle(m, list)
			got, ok := impl.MovePolygon(m, list)
			if !slices.Equal(got, want) || ok != wantOk {
				t.Errorf("MovePolygon(%v, %v) is %v, %v, not %v, %v", m, list, got, ok, want, wantOk)
			}
			counts[ok]++
			if ok {
				checkMovedPolygon(t, m, list, got, points)
			}
		}
	}
	if counts[true] < 1000 || counts[false] < 100 {
		t.Errorf("the numbers of polygons with and without a valid place are %v", counts)
	}
}

func checkMovedPolygon(t *testing.T, m impl.Motion, list, moved, points []impl.Point) {
	t.Helper()
	if !impl.ValidPolygon(moved) || len(moved) != len(list) {
		t.Errorf("%v moves %v to %v, which is no polygon with as many corners", m, list, moved)
	}
	for _, p := range points {
		if place, ok := impl.MovePoint(m, p); ok && impl.InPolygon(moved, place) != impl.InPolygon(list, p) {
			t.Errorf("%v moves %v to %v, and %v to the place %d of it", m, list, moved, p, impl.InPolygon(moved, place))
		}
	}
}

func TestPromise5ReflectionsMoveAsTheirLines(t *testing.T) {
	counts := map[bool]int{}
	points, lines := somePoints(), someLines()
	for _, l := range lines {
		want, wantOk := reflectionOracle(l)
		m, ok := impl.Reflection(l)
		if m != want || ok != wantOk {
			t.Errorf("Reflection(%v) is %v, %v, not %v, %v", l, m, ok, want, wantOk)
		}
		counts[ok]++
		if !ok {
			continue
		}
		if !m.Flip {
			t.Errorf("Reflection(%v) is %v", l, m)
		}
		if twice, twiceOk := impl.Compose(m, m); !twiceOk || twice != impl.Identity() {
			t.Errorf("%v reflects in %v, but twice it is %v, %v", m, l, twice, twiceOk)
		}
		for _, p := range points {
			wantPlace, placeOk := impl.ReflectPoint(l, p)
			if got, gotOk := impl.MovePoint(m, p); got != wantPlace || gotOk != placeOk {
				t.Errorf("%v reflects in %v, but moves %v to %v, %v, not %v, %v", m, l, p, got, gotOk, wantPlace, placeOk)
			}
		}
		for _, k := range lines {
			wantLine, lineOk := impl.ReflectLine(l, k)
			if got, gotOk := impl.MoveLine(m, k); got != wantLine || gotOk != lineOk {
				t.Errorf("%v reflects in %v, but moves %v to %v, %v, not %v, %v", m, l, k, got, gotOk, wantLine, lineOk)
			}
		}
	}
	if counts[true] < 60 || counts[false] < 10 {
		t.Errorf("the numbers of lines with and without a valid reflection are %v", counts)
	}
}

func TestTextsOfMotionsAreReadBack(t *testing.T) {
	for i, m := range someMotions(t) {
		s := impl.MotionText(m)
		if got, ok := impl.ReadMotion(s); !ok || got != m {
			t.Errorf("%q of %v is read as %v, %v", s, m, got, ok)
		}
		if want, ok := motionTextOracle(s); !ok || want != m {
			t.Errorf("%q is not the text form of %v", s, m)
		}
		if i%5 == 0 {
			forEachChange(s, "01789+-rfs/(), ", func(s string) { checkMotionText(t, s) })
		}
	}
}

// checkMotionText reads a text twice and compares with the grammar.
func checkMotionText(t *testing.T, s string) {
	t.Helper()
	want, wantOk := motionTextOracle(s)
	for range 2 {
		if got, ok := impl.ReadMotion(s); got != want || ok != wantOk {
			t.Errorf("ReadMotion(%.200q) is %v, %v, not %v, %v", s, got, ok, want, wantOk)
		}
	}
}
