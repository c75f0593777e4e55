package tests

import (
	"fmt"
	"math"
	"slices"
	"testing"

	"loop.example/g00857/impl"
)

// Promise 1 for chapter 8: every function returns, repeats its result, changes no argument, and keeps
// no memory of one.

// drawingArguments are those of all functions of the chapter.
type drawingArguments struct {
	p    impl.Pattern
	a, b impl.Point
	l    impl.Line
	k    int64
	kind int64
}

func patternResult(p impl.Pattern, rest ...any) result {
	return resultOf([]shownList{listOf(p.Points, markedPoint), listOf(p.Creases, markedCrease)}, rest...)
}

func drawingResults(v drawingArguments) map[string]func() result {
	coded := func(call func() (impl.Pattern, int64)) func() result {
		return func() result {
			p, code := call()
			return patternResult(p, code)
		}
	}
	return map[string]func() result{
		"SquarePattern": coded(func() (impl.Pattern, int64) { return impl.SquarePattern(v.k) }),
		"AddCrease":     coded(func() (impl.Pattern, int64) { return impl.AddCrease(v.p, v.a, v.b, v.kind) }),
		"AddLine":       coded(func() (impl.Pattern, int64) { return impl.AddLine(v.p, v.l, v.kind) }),
		"RemoveCrease":  coded(func() (impl.Pattern, int64) { return impl.RemoveCrease(v.p, v.k) }),
		"SetKind":       coded(func() (impl.Pattern, int64) { return impl.SetKind(v.p, v.k, v.kind) }),
		"SplitAt":       coded(func() (impl.Pattern, int64) { return impl.SplitAt(v.p, v.a) }),
		"NormalPattern": func() result { return patternResult(impl.NormalPattern(v.p)) },
		"PointsOn": func() result {
			list, code := impl.PointsOn(v.p, v.l)
			return resultOf([]shownList{listOf(list, markedPoint)}, code)
		},
	}
}

func checkDrawingPure(t *testing.T, v drawingArguments) {
	t.Helper()
	name := patternText(v.p)
	argument, kept := guardPattern(v.p)
	v.p = argument
	for function, call := range drawingResults(v) {
		checkResults(t, function, fmt.Sprint(name, v.a, v.b, v.l, v.k, v.kind), call, kept)
	}
}

func TestPromise1DrawingsAreNotChangedOrShared(t *testing.T) {
	t.Parallel()
	for i, p := range somePatterns(t) {
		seed := uint64(i) + 7
		lines := linesOn(p, seed, 12)
		for j, f := range foldsLike(p, seed, 3) {
			v := drawingArguments{p, f.p, f.q, lines[j%len(lines)], int64(j*7) % int64(len(p.Creases)+1), int64(j % 6)}
			checkDrawingPure(t, v)
			variants := patternsLike(p, seed)
			v.p = variants[(i+j)%len(variants)]
			checkDrawingPure(t, v)
		}
	}
}

func TestPromise1DrawingsReturnForAllArguments(t *testing.T) {
	t.Parallel()
	nums := slices.Concat(wildNums(), invalidNums(), slices.Repeat(someNums(), 60))
	values := slices.Concat(extremes(), slices.Repeat([]int64{0, 1, 2, 3, 4, 5, 6, 7, 8, 9}, 20))
	state := uint64(47)
	anyNum := func() impl.Num { return nums[nextRandom(&state, uint64(len(nums)))] }
	anyValue := func() int64 { return values[nextRandom(&state, uint64(len(values)))] }
	arguments := func(p impl.Pattern) drawingArguments {
		return drawingArguments{p, impl.Point{X: anyNum(), Y: anyNum()}, impl.Point{X: anyNum(), Y: anyNum()}, impl.Line{Dir: anyValue(), Off: anyNum()}, anyValue(), anyValue()}
	}
	for i, p := range somePatterns(t) {
		for _, variant := range append(patternsLike(p, uint64(i)+5)[:30], p) {
			for name, call := range drawingResults(arguments(variant)) {
				if first, second := call().shown(-1), call().shown(-1); first != second {
					t.Errorf("%s: the results for %s are %s and %s", name, patternText(variant), first, second)
				}
			}
		}
	}
	for _, p := range wildPatterns() {
		v := arguments(p)
		v.k, v.kind = math.MinInt64, math.MaxInt64
		for _, call := range drawingResults(v) {
			call()
		}
	}
}

// Promise 9: drawing and removing creases keeps patterns valid; drawing twice changes nothing, and a
// removed crease can be drawn again; the normal form has the same faces.

// checkDrawn compares a result with that of the oracle.
func checkDrawn(t *testing.T, what string, got, want impl.Pattern, code, wantCode int64) {
	t.Helper()
	if code != wantCode || !impl.SamePattern(got, want) {
		t.Errorf("%s is %s, %d, not %s, %d", what, patternText(got), code, patternText(want), wantCode)
	}
	if code == impl.OK && !impl.ValidPattern(got) {
		t.Errorf("%s is %s, which is not valid", what, patternText(got))
	}
}

func TestPromise9DrawingKeepsPatternsValid(t *testing.T) {
	t.Parallel()
	counts := map[int64]int{}
	for i, p := range drawingPatterns(t) {
		for _, f := range foldsLike(p, uint64(i)+1, 4) {
			counts[checkAdded(t, p, f)]++
		}
	}
	grids := []impl.Pattern{filledPattern(1, 1, 1), filledPattern(2, 2, 3), filledPattern(3, 1, 2), filledPattern(3, 2, 5), filledPattern(3, 3, 4)}
	for i, p := range append(grids, somePatterns(t)[:30]...) {
		for _, scaled := range scaledPatterns(p) {
			for j, f := range diagonalsOf(scaled) {
				if i < len(grids) || (i+j)%7 == 0 {
					counts[checkAdded(t, scaled, f)]++
				}
			}
		}
	}
	checkCounts(t, counts, map[int64]int{impl.OK: 1000, impl.ErrGeometry: 200, impl.ErrRange: 20, impl.ErrFull: 80, impl.ErrState: 50})
}

// checkCounts checks that there were enough cases of each code.
func checkCounts(t *testing.T, counts, least map[int64]int) {
	t.Helper()
	for code, n := range least {
		if counts[code] < n {
			t.Errorf("there are too few cases with the code %d: %v", code, counts)
		}
	}
}

// checkAdded draws a segment, draws it again, and draws it from the other end.
func checkAdded(t *testing.T, p impl.Pattern, f fold) int64 {
	t.Helper()
	what := fmt.Sprint("the segment ", f, " on ", patternText(p))
	want, wantCode := addOracle(p, f.p, f.q, f.kind)
	got, code := impl.AddCrease(p, f.p, f.q, f.kind)
	checkDrawn(t, what, got, want, code, wantCode)
	back, backCode := impl.AddCrease(p, f.q, f.p, f.kind)
	checkDrawn(t, "backwards, "+what, back, want, backCode, wantCode)
	if code != impl.OK {
		return code
	}
	again, code := impl.AddCrease(got, f.p, f.q, f.kind)
	checkDrawn(t, "drawn twice, "+what, again, got, code, impl.OK)
	other := impl.KdMountain + f.kind%3
	replaced, code := impl.AddCrease(got, f.p, f.q, other)
	direct, directCode := impl.AddCrease(p, f.p, f.q, other)
	checkDrawn(t, "drawn with another kind, "+what, replaced, direct, code, directCode)
	return impl.OK
}

func TestPromise9LinesKeepPatternsValid(t *testing.T) {
	t.Parallel()
	counts := map[int64]int{}
	for i, p := range drawingPatterns(t) {
		for j, l := range linesOn(p, uint64(i)+2, 8) {
			counts[checkLineAdded(t, p, l, impl.KdMountain+int64(j%3))]++
		}
	}
	checkCounts(t, counts, map[int64]int{impl.OK: 1000, impl.ErrGeometry: 300, impl.ErrRange: 5, impl.ErrFull: 100})
}

// checkLineAdded draws a line, and checks that the points on it become points of the pattern.
func checkLineAdded(t *testing.T, p impl.Pattern, l impl.Line, kind int64) int64 {
	t.Helper()
	what := fmt.Sprint("the line ", l, " on ", patternText(p))
	on, onCode := impl.PointsOn(p, l)
	if want, wantCode := pointsOnOracle(p, l); onCode != wantCode || !slices.Equal(on, want) {
		t.Errorf("the points on %s are %v, %d, not %v, %d", what, on, onCode, want, wantCode)
	}
	want, wantCode := addLineOracle(p, l, kind)
	got, code := impl.AddLine(p, l, kind)
	checkDrawn(t, what, got, want, code, wantCode)
	if code != impl.OK {
		return code
	}
	again, againCode := impl.AddLine(got, l, kind)
	checkDrawn(t, "drawn twice, "+what, again, got, againCode, impl.OK)
	segment, segmentCode := impl.AddCrease(p, on[0], on[len(on)-1], kind)
	checkDrawn(t, "drawn as a segment, "+what, segment, got, segmentCode, impl.OK)
	if now, nowCode := impl.PointsOn(got, l); nowCode != impl.OK || !slices.Equal(now, on) {
		t.Errorf("the points on %s are %v, %d, and then %v, %d", what, on, onCode, now, nowCode)
	}
	for i := range on[1:] {
		k := impl.CreaseBetween(got, impl.PointOf(got, on[i]), impl.PointOf(got, on[i+1]))
		if k < 0 || got.Creases[k].Kind != kind {
			t.Errorf("%s has the crease %d from %v to %v", what, k, on[i], on[i+1])
		}
	}
	return impl.OK
}

func TestPromise9RemovedCreasesCanBeDrawnAgain(t *testing.T) {
	t.Parallel()
	counts := map[int64]int{}
	for _, p := range drawingPatterns(t) {
		for k := int64(-1); k <= int64(len(p.Creases)); k++ {
			counts[checkRemoved(t, p, k)]++
			checkSet(t, p, k, (k+1)%6)
		}
	}
	checkCounts(t, counts, map[int64]int{impl.OK: 1000, impl.ErrRange: 300, impl.ErrState: 1000})
}

// checkRemoved removes a crease and draws it again.
func checkRemoved(t *testing.T, p impl.Pattern, k int64) int64 {
	t.Helper()
	what := fmt.Sprint("the crease ", k, " of ", patternText(p))
	want, wantCode := removeOracle(p, k)
	rest, code := impl.RemoveCrease(p, k)
	checkDrawn(t, "without "+what, rest, want, code, wantCode)
	if code == impl.OK {
		f := foldsOf(p)[k]
		again, againCode := impl.AddCrease(rest, f.p, f.q, f.kind)
		checkDrawn(t, "drawn again, "+what, again, p, againCode, impl.OK)
	}
	return code
}

// checkSet changes the kind of a crease, and changes it back.
func checkSet(t *testing.T, p impl.Pattern, k, kind int64) {
	t.Helper()
	what := fmt.Sprint("the crease ", k, " of ", patternText(p))
	want, wantCode := setOracle(p, k, kind)
	set, code := impl.SetKind(p, k, kind)
	checkDrawn(t, fmt.Sprint("with the kind ", kind, ", ", what), set, want, code, wantCode)
	if code == impl.OK {
		back, code := impl.SetKind(set, k, p.Creases[k].Kind)
		checkDrawn(t, "set back, "+what, back, p, code, impl.OK)
	}
}

func TestPromise9NormalFormsHaveTheSameFaces(t *testing.T) {
	t.Parallel()
	simpler := 0
	for i, p := range drawingPatterns(t) {
		if checkNormal(t, p, uint64(i)) {
			simpler++
		}
	}
	if simpler < 40 {
		t.Errorf("only %d patterns are not in normal form", simpler)
	}
}

// checkNormal compares the normal form with one that is made in a random order, and reports whether it
// is not the pattern itself.
func checkNormal(t *testing.T, p impl.Pattern, seed uint64) bool {
	t.Helper()
	normal := impl.NormalPattern(p)
	for range 2 {
		seed++
		if want := simplifyOracle(p, seed); !impl.SamePattern(normal, want) || !impl.ValidPattern(normal) {
			t.Errorf("the normal form of %s is %s, not %s", patternText(p), patternText(normal), patternText(want))
		}
	}
	if again := impl.NormalPattern(normal); !impl.SamePattern(again, normal) {
		t.Errorf("the normal form of %s has another normal form, %s", patternText(normal), patternText(again))
	}
	checkSameFaces(t, p, normal)
	return !impl.SamePattern(normal, p)
}

func checkSameFaces(t *testing.T, p, other impl.Pattern) {
	t.Helper()
	faces, code := impl.FacesOf(p)
	otherFaces, otherCode := impl.FacesOf(other)
	if code != otherCode || !slices.EqualFunc(faces, otherFaces, impl.SamePolygon) || !impl.SamePolygon(impl.PaperOf(p), impl.PaperOf(other)) {
		t.Errorf("the faces of %s are %v, %d, but those of %s are %v, %d", patternText(p), faces, code, patternText(other), otherFaces, otherCode)
	}
}

func TestPromise9DividedCreasesHaveTheSameFaces(t *testing.T) {
	t.Parallel()
	counts := map[int64]int{}
	for i, p := range drawingPatterns(t) {
		state := uint64(i) + 3
		for _, place := range placesLike(p, &state, 20) {
			q, ok := place.valid()
			if !ok {
				continue
			}
			want, wantCode := splitOracle(p, q)
			got, code := impl.SplitAt(p, q)
			checkDrawn(t, fmt.Sprint(patternText(p), " divided at ", q), got, want, code, wantCode)
			counts[code]++
			if code != impl.OK {
				continue
			}
			checkSameFaces(t, p, got)
			if normal := impl.NormalPattern(got); !impl.SamePattern(normal, impl.NormalPattern(p)) {
				t.Errorf("the normal form of %s is %s", patternText(got), patternText(normal))
			}
		}
	}
	checkCounts(t, counts, map[int64]int{impl.OK: 500, impl.ErrExists: 300, impl.ErrNotFound: 300, impl.ErrFull: 20})
}
