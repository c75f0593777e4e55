package tests

import (
	"fmt"
	"math"
	"slices"
	"testing"

	"loop.example/g00857/impl"
)

// Promise 1 for chapter 10: every function returns, repeats its result, changes no argument, and keeps
// no memory of one.

// markedReport overwrites results.
var markedReport = impl.PointReport{Point: -99, Degree: -99, Inside: true}

func pointResults(p impl.Pattern, point int64) map[string]func() result {
	numbers := func(call func() ([]int64, int64)) func() result {
		return func() result {
			list, code := call()
			return resultOf([]shownList{listOf(list, -99)}, code)
		}
	}
	return map[string]func() result{
		"DirectionsAt": numbers(func() ([]int64, int64) { return impl.DirectionsAt(p, point) }),
		"KindsAt":      numbers(func() ([]int64, int64) { return impl.KindsAt(p, point) }),
		"SectorsAt":    numbers(func() ([]int64, int64) { return impl.SectorsAt(p, point) }),
		"WrongPoints":  numbers(func() ([]int64, int64) { return impl.WrongPoints(p) }),
		"ReportPoints": func() result {
			list, code := impl.ReportPoints(p)
			return resultOf([]shownList{listOf(list, markedReport)}, code)
		},
		"ReportPoint": func() result {
			report, code := impl.ReportPoint(p, point)
			return resultOf(nil, report, code)
		},
		"the others": func() result {
			return resultOf(nil, impl.KawasakiAt(p, point), impl.MaekawaAt(p, point), impl.LittleAt(p, point), impl.LocallyFlat(p))
		},
	}
}

func checkPointsPure(t *testing.T, p impl.Pattern, point int64) {
	t.Helper()
	argument, kept := guardPattern(p)
	for name, call := range pointResults(argument, point) {
		checkResults(t, name, fmt.Sprint(patternText(p), point), call, kept)
	}
}

func TestPromise1PointsAreNotChangedOrShared(t *testing.T) {
	t.Parallel()
	for i, p := range somePatterns(t) {
		for _, inner := range impl.InteriorOf(p) {
			checkPointsPure(t, p, inner)
		}
		checkPointsPure(t, p, int64(i%len(p.Points)))
		for j, variant := range patternsLike(p, uint64(i))[:8] {
			checkPointsPure(t, variant, int64(j))
		}
	}
	for i, c := range someCentred() {
		if i%40 == 0 {
			checkPointsPure(t, c.Pattern, c.middle)
		}
	}
}

func TestPromise1PointsReturnForAllArguments(t *testing.T) {
	t.Parallel()
	values := append(extremes(), wildDirections()...)
	for i, p := range somePatterns(t) {
		for j, variant := range append(patternsLike(p, uint64(i)+11)[:20], p) {
			for name, call := range pointResults(variant, values[(i*7+j)%len(values)]) {
				if first, second := call().shown(-1), call().shown(-1); first != second {
					t.Errorf("%s: the results for %s are %s and %s", name, patternText(variant), first, second)
				}
			}
		}
	}
	for i, p := range wildPatterns() {
		for _, point := range []int64{0, int64(i % 9), math.MinInt64, math.MaxInt64} {
			for _, call := range pointResults(p, point) {
				call()
			}
		}
	}
}

// Promise 11: reports of points agree with the creases; what can be folded around a point satisfies all
// conditions there.

// checkPoint compares everything about a point with the oracle.
func checkPoint(t *testing.T, p impl.Pattern, border outline, point int64) impl.PointReport {
	t.Helper()
	want := aroundPointOracle(p, border, point)
	what := fmt.Sprint("the point ", point, " of ", patternText(p))
	dirs, dirsCode := impl.DirectionsAt(p, point)
	kinds, kindsCode := impl.KindsAt(p, point)
	sectors, sectorsCode := impl.SectorsAt(p, point)
	report, code := impl.ReportPoint(p, point)
	if !slices.Equal(dirs, want.dirs) || !slices.Equal(kinds, want.kinds) || !slices.Equal(sectors, want.sectors) {
		t.Errorf("%s has the directions %v, kinds %v and sectors %v, not %v, %v and %v", what, dirs, kinds, sectors, want.dirs, want.kinds, want.sectors)
	}
	if report != want.report || code+dirsCode+kindsCode+sectorsCode != impl.OK {
		t.Errorf("%s has the report %v, not %v, and the codes %d, %d, %d and %d", what, report, want.report, dirsCode, kindsCode, sectorsCode, code)
	}
	if impl.KawasakiAt(p, point) != want.report.Kawasaki || impl.MaekawaAt(p, point) != want.report.Maekawa || impl.LittleAt(p, point) != want.report.Little {
		t.Errorf("%s: the conditions are not %v", what, want.report)
	}
	return report
}

// checkReports compares the reports of all points with the oracle.
func checkReports(t *testing.T, p impl.Pattern, border outline) {
	t.Helper()
	var want []impl.PointReport
	var wrong []int64
	for point := range int64(len(p.Points)) {
		report := aroundPointOracle(p, border, point).report
		want = append(want, report)
		if !report.Kawasaki || !report.Maekawa || !report.Little {
			wrong = append(wrong, point)
		}
	}
	reports, code := impl.ReportPoints(p)
	if code != impl.OK || !slices.Equal(reports, want) {
		t.Errorf("the reports of %s are %v, %d, not %v", patternText(p), reports, code, want)
	}
	got, code := impl.WrongPoints(p)
	if code != impl.OK || !slices.Equal(got, wrong) || impl.LocallyFlat(p) != (len(wrong) == 0) {
		t.Errorf("the wrong points of %s are %v, %d, not %v, and LocallyFlat is %v", patternText(p), got, code, wrong, impl.LocallyFlat(p))
	}
}

func TestPromise11ReportsAgreeWithTheCreases(t *testing.T) {
	t.Parallel()
	for _, p := range somePatterns(t) {
		border, _ := patternOracle(p)
		for point := range int64(len(p.Points)) {
			checkPoint(t, p, border, point)
		}
		checkReports(t, p, border)
		checkDegrees(t, p)
	}
}

// checkDegrees checks that each crease is counted at both of its ends, with opposite directions.
func checkDegrees(t *testing.T, p impl.Pattern) {
	t.Helper()
	reports, _ := impl.ReportPoints(p)
	degrees := int64(0)
	for _, report := range reports {
		degrees += report.Degree
	}
	if degrees != 2*int64(len(p.Creases)) {
		t.Errorf("the degrees of %v are not twice the number of creases of %s", reports, patternText(p))
	}
	for k, c := range p.Creases {
		ways, _ := impl.DirectionsAt(p, c.From)
		back, _ := impl.DirectionsAt(p, c.To)
		i := slices.Index(impl.CreasesAt(p, c.From), int64(k))
		j := slices.Index(impl.CreasesAt(p, c.To), int64(k))
		if i < 0 || j < 0 || (ways[i]+8)%16 != back[j] {
			t.Errorf("the crease %d of %s has the directions %v and %v", k, patternText(p), ways, back)
		}
	}
}

func TestPromise11StarsAndWedgesAgreeWithTheCreases(t *testing.T) {
	t.Parallel()
	counts := map[string]int{}
	for i, c := range someCentred() {
		if i%100 == 0 {
			checkCentred(t, c)
		}
		report := checkPoint(t, c.Pattern, c.border, c.middle)
		checkReports(t, c.Pattern, c.border)
		counts[fmt.Sprint(report.Inside, report.Kawasaki, report.Maekawa, report.Little)]++
	}
	for _, conditions := range []string{"false true true true", "true true true true", "true true true false", "true true false true", "true true false false", "true false true true", "true false true false", "true false false true", "true false false false"} {
		if counts[conditions] < 10 {
			t.Errorf("the numbers of points by their conditions are %v", counts)
		}
	}
}

// checkCentred checks the border that a star or a wedge is said to have.
func checkCentred(t *testing.T, c centred) {
	t.Helper()
	if border, ok := patternOracle(c.Pattern); !ok || !slices.Equal(border.ring, c.border.ring) {
		t.Fatalf("the border of %s is %v, %v, not %v", patternText(c.Pattern), border.ring, ok, c.border.ring)
	}
}

func TestPromise11FoldablePointsSatisfyAllConditions(t *testing.T) {
	t.Parallel()
	state, count := uint64(61), 0
	for _, cone := range allCones() {
		dirs, ok := impl.DirectionsOf(0, cone)
		if !ok || !isLeastCone(cone) && nextRandom(&state, 40) > 0 {
			continue
		}
		for range 3 {
			kinds := randomKinds(&state, len(cone), false)
			if nextRandom(&state, 8) > 0 {
				kinds = foldableKinds(&state, cone)
			}
			c := starOf(impl.Point{}, dirs, kinds)
			sectors, _ := impl.SectorsAt(c.Pattern, c.middle)
			found, _ := impl.KindsAt(c.Pattern, c.middle)
			if !slices.Equal(sectors, cone) || !slices.Equal(found, kinds) {
				t.Errorf("%s has the sectors %v and the kinds %v, not %v and %v", patternText(c.Pattern), sectors, found, cone, kinds)
			}
			if impl.FoldsAround(sectors, found) {
				count++
				if wrong, code := impl.WrongPoints(c.Pattern); len(wrong) != 0 || code != impl.OK || !impl.LocallyFlat(c.Pattern) {
					t.Errorf("%v with %v can be folded, but violates %v", cone, kinds, wrong)
				}
			}
		}
	}
	if count < 500 {
		t.Errorf("only %d points can be folded", count)
	}
}

func TestPromise11TheLibrarySatisfiesAllConditions(t *testing.T) {
	for _, name := range impl.LibraryNames() {
		p, _ := impl.LibraryPattern(name)
		wrong, code := impl.WrongPoints(p)
		if !impl.LocallyFlat(p) || len(wrong) != 0 || code != impl.OK {
			t.Errorf("%s violates %v, %d", name, wrong, code)
		}
		for _, point := range impl.InteriorOf(p) {
			sectors, _ := impl.SectorsAt(p, point)
			kinds, _ := impl.KindsAt(p, point)
			if !impl.FoldsAround(sectors, kinds) {
				t.Errorf("the point %d of %s cannot be folded", point, name)
			}
			if len(kinds) == 4 && checkReported(p, point, 2) {
				t.Errorf("the point %d of %s satisfies all conditions with an open crease", point, name)
			}
		}
	}
}

// checkReported reports whether a point satisfies all conditions although one of its creases is open.
func checkReported(p impl.Pattern, point int64, crease int) bool {
	open, _ := impl.SetKind(p, impl.CreasesAt(p, point)[crease], impl.KdOpen)
	report, _ := impl.ReportPoint(open, point)
	return report.Maekawa || report.Little || !report.Kawasaki
}
