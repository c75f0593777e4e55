package tests

import (
	"fmt"
	"math"
	"slices"
	"testing"

	"loop.example/g00857/impl"
)

// Promise 1 for chapter 12: every function returns, repeats its result, changes no argument, and keeps
// no memory of one.

// spareMotion fills the unused capacity of arguments, and markedMotion overwrites results.
var (
	spareMotion  = impl.Motion{Turn: 5, X: impl.Num{A: 77}}
	markedMotion = impl.Motion{Turn: -99, Flip: true}
)

func foldResults(p impl.Pattern, way []int64, motions []impl.Motion) map[string]func() result {
	return map[string]func() result{
		"FoldPattern": func() result {
			list, code := impl.FoldPattern(p)
			return resultOf([]shownList{listOf(list, markedMotion)}, code)
		},
		"FoldPoints": func() result {
			list, code := impl.FoldPoints(p)
			return resultOf([]shownList{listOf(list, markedPoint)}, code)
		},
		"FoldTree": func() result {
			list, code := impl.FoldTree(p)
			return resultOf([]shownList{listOf(list, -99)}, code)
		},
		"the others": func() result {
			bad, badCode := impl.BadJoint(p)
			motion, code := impl.WayMotion(p, way)
			return resultOf(nil, impl.FoldsFlat(p), bad, badCode, motion, code, impl.CheckMotions(p, motions))
		},
	}
}

func checkFoldPure(t *testing.T, p impl.Pattern, way []int64, motions []impl.Motion) {
	t.Helper()
	argument, patternKept := guardPattern(p)
	joints, jointsKept := guard(way, 1)
	list, listKept := guard(motions, spareMotion)
	kept := func() bool { return patternKept() && jointsKept() && listKept() }
	for name, call := range foldResults(argument, joints, list) {
		checkResults(t, name, fmt.Sprint(patternText(p), way, motions), call, kept)
	}
}

func TestPromise1FoldingsAreNotChangedOrShared(t *testing.T) {
	t.Parallel()
	state := uint64(89)
	for i, p := range foldingPatterns(t) {
		joints, _ := impl.NeighboursOf(p)
		motions, _ := impl.FoldPattern(p)
		way := randomWay(&state, joints, 6)
		checkFoldPure(t, p, way, motions)
		for _, variant := range patternsLike(p, uint64(i))[:4] {
			checkFoldPure(t, variant, append(way, 0), motions)
		}
	}
	for _, v := range wideTexts {
		checkFoldPure(t, drawn(t, v.text), []int64{0, 0, 0}, make([]impl.Motion, 2))
	}
}

func TestPromise1FoldingsReturnForAllArguments(t *testing.T) {
	t.Parallel()
	values := slices.Concat(extremes(), slices.Repeat([]int64{0, 1, 2, 3, 4, 5}, 40))
	motions := slices.Concat(someMotions(t), invalidMotions(), make([]impl.Motion, 300))
	state := uint64(97)
	for i, p := range foldingPatterns(t) {
		for _, variant := range append(patternsLike(p, uint64(i)+7)[:12], p) {
			way, list := make([]int64, nextRandom(&state, 8)), make([]impl.Motion, nextRandom(&state, 8))
			for k := range way {
				way[k] = values[nextRandom(&state, uint64(len(values)))]
			}
			for k := range list {
				list[k] = motions[nextRandom(&state, uint64(len(motions)))]
			}
			for name, call := range foldResults(variant, way, list) {
				if first, second := call().shown(-1), call().shown(-1); first != second {
					t.Errorf("%s: the results for %s, %v and %v are %s and %s", name, patternText(variant), way, list, first, second)
				}
			}
		}
	}
	for i, p := range append(wildPatterns(), gridPattern(6, 4), impl.Pattern{}) {
		length := []int{0, 1, 24, 25, 5000}[i%5]
		for _, joint := range []int64{math.MinInt64, -1, 0, 37, 38, math.MaxInt64} {
			for _, call := range foldResults(p, slices.Repeat([]int64{joint}, length), make([]impl.Motion, length)) {
				call()
			}
		}
	}
}

// Promise 13: the patterns of the library are valid, satisfy all conditions at their points, and can be
// placed in the plane.

func TestPromise13TheLibraryFolds(t *testing.T) {
	names := impl.LibraryNames()
	if len(names) != 12 {
		t.Errorf("the library has the names %v", names)
	}
	for _, name := range names {
		p, ok := impl.LibraryPattern(name)
		motions, code := impl.FoldPattern(p)
		points, pointsCode := impl.FoldPoints(p)
		if !ok || !impl.ValidPattern(p) || !impl.LocallyFlat(p) || !impl.FoldsFlat(p) {
			t.Errorf("%s is not as it should be: %v, %v, %v, %v", name, ok, impl.ValidPattern(p), impl.LocallyFlat(p), impl.FoldsFlat(p))
		}
		if bad, badCode := impl.BadJoint(p); code != impl.OK || pointsCode != impl.OK || badCode != impl.ErrNotFound || len(points) != len(p.Points) {
			t.Errorf("%s has the motions %v, %d, the places %v, %d, and the bad joint %d, %d", name, motions, code, points, pointsCode, bad, badCode)
		}
		if !impl.CheckMotions(p, motions) {
			t.Errorf("the motions %v of %s are not accepted", motions, name)
		}
		checkFolding(t, p)
	}
}

func TestPromise13PlacesOfTheLibrary(t *testing.T) {
	for _, v := range []struct{ name, points string }{
		{"blintz", "(0,0) (0,2) (0,0) (2,0) (-2,0) (0,0) (0,-2) (0,0)"},
		{"book", "(0,0) (0,4) (2,0) (2,4) (0,0) (0,4)"},
		{"cupboard", "(0,0) (0,4) (1,0) (1,4) (-1,0) (-1,4) (0,0) (0,4)"},
		{"diagonal", "(0,0) (4,0) (4,0) (4,4)"},
		{"kite", "(0,0) (0,4) (-4+4r,4) (0,4) (4-4r,4) (0,4r)"},
		{"pleat", "(0,0) (0,4) (1,0) (1,4) (0,0) (0,4) (1,0) (1,4) (0,0) (0,4)"},
	} {
		p, _ := impl.LibraryPattern(v.name)
		points, code := impl.FoldPoints(p)
		if want := mustPoints(t, v.points); code != impl.OK || !slices.Equal(points, want) {
			t.Errorf("the points of %s have the places %v, %d, not %v", v.name, points, code, want)
		}
	}
}

// Promise 14: the motion of a face does not depend on the way to it; a pattern has a folding map exactly if
// Kawasaki's condition holds at all interior points.

// checkFolding compares everything about the folding of a pattern with the oracle.
func checkFolding(t *testing.T, p impl.Pattern) int64 {
	t.Helper()
	m := foldingOracle(t, p)
	if tree, code := impl.FoldTree(p); code != impl.OK || !slices.Equal(tree, m.tree) {
		t.Errorf("the tree of %s is %v, %d, not %v", patternText(p), tree, code, m.tree)
	}
	want, wantCode := max(m.bad, 0), int64(impl.OK)
	if m.bad < 0 {
		wantCode = impl.ErrNotFound
	}
	if bad, code := impl.BadJoint(p); bad != want || code != wantCode {
		t.Errorf("the bad joint of %s is %d, %d, not %d, %d", patternText(p), bad, code, want, wantCode)
	}
	motions, motionsCode := m.motions()
	got, code := impl.FoldPattern(p)
	if !slices.Equal(got, motions) || code != motionsCode || impl.FoldsFlat(p) != (code == impl.OK) {
		t.Errorf("the motions of %s are %v, %d, not %v, %d, and FoldsFlat is %v", patternText(p), got, code, motions, motionsCode, impl.FoldsFlat(p))
	}
	points, pointsCode := m.points(t, p)
	if got, code := impl.FoldPoints(p); !slices.Equal(got, points) || code != pointsCode {
		t.Errorf("the places of the points of %s are %v, %d, not %v, %d", patternText(p), got, code, points, pointsCode)
	}
	if impl.CheckMotions(p, motions) != (motionsCode == impl.OK) {
		t.Errorf("CheckMotions of %s and %v is %v", patternText(p), motions, motionsCode != impl.OK)
	}
	return motionsCode
}

func TestPromise14FoldingsAreExact(t *testing.T) {
	t.Parallel()
	counts := map[int64]int{}
	for _, p := range foldingPatterns(t) {
		code := facesCodeOracle(p)
		counts[code]++
		if code != impl.OK {
			checkFoldingRejected(t, p, code)
			continue
		}
		counts[checkFolding(t, p)]++
	}
	checkCounts(t, counts, map[int64]int{impl.OK: 300, impl.ErrNotFlat: 60, impl.ErrGeometry: 15})
}

func TestPromise14ScaledFoldingsAreExact(t *testing.T) {
	t.Parallel()
	counts := map[int64]int{}
	for i, p := range foldingPatterns(t) {
		if i%3 > 0 {
			continue
		}
		for _, scaled := range scaledPatterns(p) {
			if facesCodeOracle(scaled) == impl.OK {
				counts[checkFolding(t, scaled)]++
			}
		}
	}
	checkCounts(t, counts, map[int64]int{impl.OK: 60, impl.ErrRange: 10})
}

func TestPromise14KawasakiDecides(t *testing.T) {
	t.Parallel()
	counts := map[bool]int{}
	check := func(p impl.Pattern) {
		if _, code := impl.FacesOf(p); code != impl.OK {
			return
		}
		flat := true
		for _, point := range impl.InteriorOf(p) {
			flat = flat && impl.KawasakiAt(p, point)
		}
		_, code := impl.BadJoint(p)
		if (code == impl.ErrNotFound) != flat {
			t.Errorf("Kawasaki's condition for %s is %v, but BadJoint has the code %d", patternText(p), flat, code)
		}
		counts[flat && len(impl.InteriorOf(p)) > 0]++
	}
	for _, p := range foldingPatterns(t) {
		check(p)
	}
	for _, c := range someCentred() {
		check(c.Pattern)
	}
	if counts[true] < 400 || counts[false] < 400 {
		t.Errorf("the numbers of patterns with and without a folding map are %v", counts)
	}
}

func TestPromise14WaysDoNotMatter(t *testing.T) {
	t.Parallel()
	state := uint64(101)
	for _, p := range foldingPatterns(t) {
		motions, code := impl.FoldPattern(p)
		joints, _ := impl.NeighboursOf(p)
		if code != impl.OK {
			continue
		}
		for length := range int64(12) {
			way := randomWay(&state, joints, length*length)
			face, _ := faceBehind(joints, way)
			if got, code := impl.WayMotion(p, way); got != motions[face] || code != impl.OK {
				t.Errorf("the way %v through %s to the face %d has the motion %v, %d, not %v", way, patternText(p), face, got, code, motions[face])
			}
		}
		for face := range motions {
			way, _ := impl.PathOfFaces(p, 0, int64(face))
			if got, code := impl.WayMotion(p, way); got != motions[face] || code != impl.OK {
				t.Errorf("the shortest way through %s to the face %d has the motion %v, %d, not %v", patternText(p), face, got, code, motions[face])
			}
		}
	}
}

func TestPromise14WaysOfAllPatternsAreExact(t *testing.T) {
	t.Parallel()
	state := uint64(103)
	counts := map[int64]int{}
	patterns := foldingPatterns(t)
	for _, v := range wideTexts {
		patterns = append(patterns, drawn(t, v.text))
	}
	for i, p := range patterns {
		joints, code := impl.NeighboursOf(p)
		if code != impl.OK || len(joints) == 0 || i%2 == 1 {
			continue
		}
		for length := int64(1); length < 40; length += 6 {
			way := randomWay(&state, joints, length)
			if nextRandom(&state, 5) == 0 {
				way[nextRandom(&state, uint64(len(way)))] = nextRandom(&state, uint64(len(joints)))
			}
			counts[checkWay(t, p, joints, way)]++
		}
	}
	checkCounts(t, counts, map[int64]int{impl.OK: 500, impl.ErrState: 20, impl.ErrRange: 10})
}

func checkWay(t *testing.T, p impl.Pattern, joints []impl.Joint, way []int64) int64 {
	t.Helper()
	want, wantCode := impl.Motion{}, int64(impl.ErrState)
	if _, ok := faceBehind(joints, way); ok {
		motion, ok := motionOracle(wayOfJoints(joints, way).place)
		want, wantCode = motion, impl.OK
		if !ok {
			wantCode = impl.ErrRange
		}
	}
	if got, code := impl.WayMotion(p, way); got != want || code != wantCode {
		t.Errorf("the way %v through %s has the motion %v, %d, not %v, %d", way, patternText(p), got, code, want, wantCode)
	}
	return wantCode
}

func TestPromise14WaysAroundPoints(t *testing.T) {
	t.Parallel()
	counts := map[bool]int{}
	for _, p := range foldingPatterns(t) {
		if _, code := impl.FacesOf(p); code != impl.OK {
			continue
		}
		for _, point := range impl.InteriorOf(p) {
			way := roundWay(t, p, point)
			got, code := impl.WayMotion(p, way)
			stays := code == impl.OK && got == impl.Identity()
			if stays != impl.KawasakiAt(p, point) {
				t.Errorf("the way %v around the point %d of %s has the motion %v, %d", way, point, patternText(p), got, code)
			}
			counts[stays]++
		}
	}
	if counts[true] < 200 || counts[false] < 100 {
		t.Errorf("the numbers of points around which the paper does and does not stay are %v", counts)
	}
}
