package tests

import (
	"fmt"
	"math"
	"slices"
	"strings"
	"sync"
	"testing"

	"loop.example/g00857/impl"
)

// Promise 1 for chapter 9: every function returns, repeats its result, changes no argument, and keeps
// no memory of one.

func symmetryResults(p, other impl.Pattern, k int64) map[string]func() result {
	coded := func(call func() (impl.Pattern, int64)) func() result {
		return func() result {
			image, code := call()
			return patternResult(image, code)
		}
	}
	return map[string]func() result{
		"TransformPattern": coded(func() (impl.Pattern, int64) { return impl.TransformPattern(p, k) }),
		"CanonicalPattern": coded(func() (impl.Pattern, int64) { return impl.CanonicalPattern(p) }),
		"PatternSymmetries": func() result {
			list, code := impl.PatternSymmetries(p)
			return resultOf([]shownList{listOf(list, -99)}, code)
		},
		"PatternText":     func() result { return resultOf(nil, impl.PatternText(p)) },
		"ComparePatterns": func() result { return resultOf(nil, impl.ComparePatterns(p, other), impl.ComparePatterns(other, p)) },
	}
}

func textResults(s string) map[string]func() result {
	found := func(call func(s string) (impl.Pattern, bool)) func() result {
		return func() result {
			p, ok := call(s)
			return patternResult(p, ok)
		}
	}
	return map[string]func() result{
		"ReadPattern":    found(impl.ReadPattern),
		"LibraryPattern": found(impl.LibraryPattern),
		"LibraryNames": func() result {
			return resultOf([]shownList{listOf(impl.LibraryNames(), "spoiled")})
		},
	}
}

func TestPromise1SymmetriesAreNotChangedOrShared(t *testing.T) {
	t.Parallel()
	patterns := somePatterns(t)
	for i, p := range patterns {
		for j, variant := range append(patternsLike(p, uint64(i))[:6], p, p) {
			argument, kept := guardPattern(variant)
			other, otherKept := guardPattern(patterns[(i+j)%len(patterns)])
			both := func() bool { return kept() && otherKept() }
			for name, call := range symmetryResults(argument, other, int64((i+j)%9)) {
				checkResults(t, name, patternText(variant), call, both)
			}
		}
	}
}

func TestPromise1TextsAndNamesAreNotShared(t *testing.T) {
	t.Parallel()
	words := append(impl.LibraryNames(), "", "Fish", "fish\n")
	for _, p := range somePatterns(t)[:40] {
		words = append(words, patternFormOracle(p), patternFormOracle(p)+" ")
	}
	for _, s := range words {
		for name, call := range textResults(s) {
			checkResults(t, name, s, call, func() bool { return true })
		}
	}
}

func TestPromise1SymmetriesReturnForAllArguments(t *testing.T) {
	t.Parallel()
	values := append(extremes(), -1, 0, 1, 2, 3, 4, 5, 6, 7, 8)
	patterns := somePatterns(t)
	for i, p := range patterns {
		other := patterns[(i*7)%len(patterns)]
		for j, variant := range append(patternsLike(p, uint64(i)+3)[:30], p) {
			for name, call := range symmetryResults(variant, other, values[(i+j)%len(values)]) {
				if first, second := call().shown(-1), call().shown(-1); first != second {
					t.Errorf("%s: the results for %s are %s and %s", name, patternText(variant), first, second)
				}
			}
		}
	}
	for i, p := range wildPatterns() {
		for _, k := range []int64{math.MinInt64, math.MaxInt64, int64(i % 8)} {
			for _, call := range symmetryResults(p, patterns[0], k) {
				call()
			}
		}
	}
}

func TestPromise1TextsOfPatternsReturnForAllArguments(t *testing.T) {
	t.Parallel()
	for _, s := range []string{"\n", " ", "(0,0) ", "0-1B ", "0-1B\n", "(0,0)\n", "(", "-", "B", "9", "\xff", "\x80\n", "é", "0-1é ", "\x00", "(0,0) (0,1) (1,0) (1,1)\n0-1B 0-2B 1-3B 2-3B\n"} {
		for _, count := range []int{0, 1, 2, 3, 40, 41, 70, 71, 1000, 200000} {
			for _, text := range []string{strings.Repeat(s, count), "(0,0)\n" + strings.Repeat(s, count), strings.Repeat(s, count) + "\n0-1B\n"} {
				checkReadPattern(t, text)
				if p, ok := impl.LibraryPattern(text); ok || len(p.Points) != 0 || len(p.Creases) != 0 {
					t.Errorf("the library has a pattern %.200q", text)
				}
			}
		}
	}
	state := uint64(53)
	for range 3000 {
		bytes := make([]byte, nextRandom(&state, 60))
		for i := range bytes {
			bytes[i] = byte(nextRandom(&state, 256))
			if nextRandom(&state, 3) > 0 {
				bytes[i] = "0123(), -BMVOr/\n"[nextRandom(&state, 16)]
			}
		}
		checkReadPattern(t, string(bytes))
	}
}

// checkReadPattern compares with the oracle.
func checkReadPattern(t *testing.T, s string) bool {
	t.Helper()
	want, wantOk := readPatternOracle(s)
	got, ok := impl.ReadPattern(s)
	if ok != wantOk || !impl.SamePattern(got, want) {
		t.Errorf("ReadPattern(%.300q) is %s, %v, not %s, %v", s, patternText(got), ok, patternText(want), wantOk)
	}
	return ok
}

func TestPromise1TheLibraryIsTheSameForAll(t *testing.T) {
	names := impl.LibraryNames()
	texts := make([]string, 40)
	var group sync.WaitGroup
	for i := range texts {
		group.Go(func() {
			p, _ := impl.LibraryPattern(names[i%len(names)])
			texts[i] = impl.PatternText(p)
		})
	}
	group.Wait()
	for i, text := range texts {
		if p, ok := impl.LibraryPattern(names[i%len(names)]); !ok || impl.PatternText(p) != text || text == "" {
			t.Errorf("%s is %q and %q", names[i%len(names)], text, impl.PatternText(p))
		}
	}
}

// Promise 10: patterns are recovered from their texts; symmetries lead to one canonical pattern.

func TestPromise10PatternsAreRecoveredFromTexts(t *testing.T) {
	t.Parallel()
	for _, p := range drawingPatterns(t) {
		text := impl.PatternText(p)
		if want := patternFormOracle(p); text != want {
			t.Errorf("the text of %s is %q, not %q", patternText(p), text, want)
		}
		if got, ok := impl.ReadPattern(text); !ok || !impl.SamePattern(got, p) {
			t.Errorf("%q is read as %s, %v, not %s", text, patternText(got), ok, patternText(p))
		}
	}
}

func TestPromise10ChangedTextsAreReadExactly(t *testing.T) {
	t.Parallel()
	counts := map[bool]int{}
	for i, p := range somePatterns(t) {
		if len(p.Creases) > 9 || i%4 != 0 && i >= len(patternTexts) {
			continue // the oracle takes its time
		}
		forEachChange(patternFormOracle(p), "0123-+r/(), \nBMVOX\xc3", func(s string) {
			counts[checkReadPattern(t, s)]++
		})
	}
	if counts[true] < 200 || counts[false] < 10000 {
		t.Errorf("the numbers of texts of patterns and others are %v", counts)
	}
}

func TestPromise10PatternsAreOrdered(t *testing.T) {
	t.Parallel()
	var list []impl.Pattern
	for i, p := range drawingPatterns(t) {
		if i%3 == 0 {
			list = append(list, p)
		}
		if i%9 != 0 {
			continue
		}
		for _, variant := range patternsLike(p, uint64(i))[:40] {
			if impl.ValidPattern(variant) {
				list = append(list, variant)
			}
		}
	}
	for i, a := range list {
		for j, b := range list {
			if (i+j)%19 != 0 && (i < j-6 || i > j+6) {
				continue
			}
			want := comparePatternsOracle(a, b)
			if got := impl.ComparePatterns(a, b); got != want || (got == 0) != impl.SamePattern(a, b) || impl.ComparePatterns(b, a) != -want {
				t.Errorf("%s compared with %s is %d, not %d", patternText(a), patternText(b), got, want)
			}
		}
	}
}

func TestPromise10SymmetriesLeadToOneCanonicalPattern(t *testing.T) {
	t.Parallel()
	counts := map[int]int{}
	for _, p := range drawingPatterns(t) {
		counts[checkSymmetries(t, p)]++
	}
	// A pattern with numbers that leave the limits counts as one with 0.
	for symmetries, least := range map[int]int{0: 3, 1: 40, 2: 15, 4: 15, 8: 5} {
		if counts[symmetries] < least {
			t.Errorf("the numbers of patterns by their symmetries are %v", counts)
		}
	}
}

// checkSymmetries compares everything about the symmetries of a pattern with the oracle, and returns
// how many it has.
func checkSymmetries(t *testing.T, p impl.Pattern) int {
	t.Helper()
	for k := int64(-1); k <= impl.Symmetries; k++ {
		want, wantCode := transformOracle(p, k)
		got, code := impl.TransformPattern(p, k)
		checkDrawn(t, fmt.Sprint("the image ", k, " of ", patternText(p)), got, want, code, wantCode)
	}
	all, wantCode := imagesOracle(p)
	canonical, code := impl.CanonicalPattern(p)
	symmetries, symmetriesCode := impl.PatternSymmetries(p)
	if wantCode != impl.OK {
		checkDrawn(t, "the canonical form of "+patternText(p), canonical, impl.Pattern{}, code, wantCode)
		if len(symmetries) != 0 || symmetriesCode != wantCode {
			t.Errorf("the symmetries of %s are %v, %d", patternText(p), symmetries, symmetriesCode)
		}
		return 0
	}
	least := slices.MinFunc(all, func(a, b impl.Pattern) int { return int(comparePatternsOracle(a, b)) })
	checkDrawn(t, "the canonical form of "+patternText(p), canonical, least, code, impl.OK)
	var same []int64
	distinct := map[string]bool{}
	for k, image := range all {
		distinct[patternFormOracle(image)] = true
		if impl.SamePattern(image, all[0]) {
			same = append(same, int64(k))
		}
		checkImage(t, image, canonical)
	}
	if symmetriesCode != impl.OK || !slices.Equal(symmetries, same) || len(distinct)*len(symmetries) != impl.Symmetries {
		t.Errorf("%s has the symmetries %v, %d, not %v, and %d images", patternText(p), symmetries, symmetriesCode, same, len(distinct))
	}
	return len(symmetries)
}

// checkImage checks that an image of a pattern has the same canonical form.
func checkImage(t *testing.T, image, canonical impl.Pattern) {
	t.Helper()
	got, code := impl.CanonicalPattern(image)
	checkDrawn(t, "the canonical form of the image "+patternText(image), got, canonical, code, impl.OK)
	if impl.ComparePatterns(canonical, image) > 0 {
		t.Errorf("%s is greater than its image %s", patternText(canonical), patternText(image))
	}
}

// composed returns the symmetry that does first one and then another one: one that mirrors turns the
// quarter turns before it into the opposite direction.
func composed(first, second int64) int64 {
	turns, mirror := first%4, (first/4+second/4)%2
	if second >= 4 {
		turns = 4 - turns
	}
	return mirror*4 + (turns+second)%4
}

func TestPromise10SymmetriesCompose(t *testing.T) {
	t.Parallel()
	for i, p := range drawingPatterns(t) {
		if i%3 != 0 {
			continue
		}
		for first := range int64(impl.Symmetries) {
			second := (first*3 + int64(i)) % impl.Symmetries
			image, code := impl.TransformPattern(p, first)
			both, bothCode := impl.TransformPattern(image, second)
			want, wantCode := impl.TransformPattern(p, composed(first, second))
			if code == impl.OK && bothCode == impl.OK && wantCode == impl.OK {
				checkDrawn(t, fmt.Sprint("the image ", first, " and then ", second, " of ", patternText(p)), both, want, bothCode, impl.OK)
			}
		}
	}
}
