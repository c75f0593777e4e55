package tests

import (
	"fmt"
	"math"
	"slices"
	"testing"

	"loop.example/g00857/impl"
)

// Promise 1 for chapter 6: every function returns, repeats its result, changes no argument, and keeps
// no memory of one.

// spareCrease fills the unused capacity of arguments, and markedCrease overwrites results.
var (
	spareCrease  = impl.Crease{From: 5, To: 6, Kind: 7}
	markedCrease = impl.Crease{From: -99, To: -99, Kind: -99}
)

// guardPattern returns a copy of a pattern whose lists have some unused capacity, and a function that
// reports whether all of it is unchanged.
func guardPattern(p impl.Pattern) (impl.Pattern, func() bool) {
	points, pointsKept := guard(p.Points, sparePoint)
	creases, creasesKept := guard(p.Creases, spareCrease)
	return impl.Pattern{Points: points, Creases: creases}, func() bool { return pointsKept() && creasesKept() }
}

// shownList is a returned list, of which only its description and how to overwrite it matter.
type shownList struct {
	shown func() string
	spoil func()
}

func listOf[T any](list []T, marked T) shownList {
	return shownList{
		shown: func() string { return fmt.Sprint(list) },
		spoil: func() { overwrite(list, marked) },
	}
}

// result is what a call returns: some lists, and a description of everything else.
type result struct {
	lists []shownList
	rest  string
}

func resultOf(lists []shownList, rest ...any) result {
	return result{lists: lists, rest: fmt.Sprint(rest...)}
}

// shown describes the result as it is at the moment, without the list with the index but.
func (r result) shown(but int) string {
	text := r.rest
	for i, list := range r.lists {
		if i != but {
			text += list.shown()
		}
	}
	return text
}

// checkResults calls a function twice and overwrites the lists of the first result, one by one. None of
// the other lists and no argument may change.
func checkResults(t *testing.T, name string, arguments string, call func() result, kept func() bool) {
	t.Helper()
	first, second := call(), call()
	want := first.shown(-1)
	if second.shown(-1) != want {
		t.Errorf("%s: the results for %s are %s and %s", name, arguments, want, second.shown(-1))
	}
	if !kept() {
		t.Errorf("%s changes %s", name, arguments)
	}
	for i, list := range first.lists {
		others := first.shown(i)
		list.spoil()
		if first.shown(i) != others {
			t.Errorf("%s: list %d of the result for %s shares memory with another one", name, i, arguments)
		}
	}
	if !kept() {
		t.Errorf("%s: a result shares memory with %s", name, arguments)
	}
	if second.shown(-1) != want || call().shown(-1) != want {
		t.Errorf("%s: two results for %s share memory", name, arguments)
	}
}

func patternResults(p impl.Pattern, k, other int64, q impl.Point) map[string]func() result {
	numbers := func(call func() []int64) func() result {
		return func() result { return resultOf([]shownList{listOf(call(), -99)}) }
	}
	return map[string]func() result{
		"PaperOf":    func() result { return resultOf([]shownList{listOf(impl.PaperOf(p), markedPoint)}) },
		"BorderOf":   numbers(func() []int64 { return impl.BorderOf(p) }),
		"InteriorOf": numbers(func() []int64 { return impl.InteriorOf(p) }),
		"CreasesAt":  numbers(func() []int64 { return impl.CreasesAt(p, k) }),
		"CountKinds": numbers(func() []int64 { return impl.CountKinds(p) }),
		"ExchangeKinds": func() result {
			exchanged := impl.ExchangeKinds(p)
			return resultOf([]shownList{listOf(exchanged.Points, markedPoint), listOf(exchanged.Creases, markedCrease)})
		},
		"the others": func() result {
			return resultOf(nil, impl.ValidPattern(p), impl.SamePattern(p, p), impl.PointOf(p, q), impl.CreaseBetween(p, k, other))
		},
	}
}

func checkPatternPure(t *testing.T, p impl.Pattern, k, other int64, q impl.Point) {
	t.Helper()
	argument, kept := guardPattern(p)
	for name, call := range patternResults(argument, k, other, q) {
		checkResults(t, name, patternText(p), call, kept)
	}
}

func TestPromise1PatternsAreNotChangedOrShared(t *testing.T) {
	t.Parallel()
	for i, p := range somePatterns(t) {
		for j, variant := range append(patternsLike(p, uint64(i))[:20], p) {
			k := int64((i + j) % len(p.Points))
			checkPatternPure(t, variant, k, int64(j%7), p.Points[k])
		}
	}
	for _, v := range wrongPatterns {
		checkPatternPure(t, written(t, v.points, v.creases), 0, 1, impl.Point{})
	}
}

func TestPromise1PatternsReturnForAllArguments(t *testing.T) {
	t.Parallel()
	nums := slices.Concat(wildNums(), invalidNums(), slices.Repeat(someNums(), 60))
	values := slices.Concat(extremes(), slices.Repeat([]int64{0, 1, 2, 3, 4, 5, 6, 7, 8, 9}, 20))
	state := uint64(41)
	anyValue := func() int64 { return values[nextRandom(&state, uint64(len(values)))] }
	anyPoint := func() impl.Point {
		return impl.Point{X: nums[nextRandom(&state, uint64(len(nums)))], Y: nums[nextRandom(&state, uint64(len(nums)))]}
	}
	patterns := somePatterns(t)
	for i := range 4000 {
		p := impl.Pattern{Points: slices.Clone(patterns[i%len(patterns)].Points), Creases: slices.Clone(patterns[i%len(patterns)].Creases)}
		for range nextRandom(&state, 3) {
			p.Points[nextRandom(&state, uint64(len(p.Points)))] = anyPoint()
			p.Creases[nextRandom(&state, uint64(len(p.Creases)))] = impl.Crease{From: anyValue(), To: anyValue(), Kind: anyValue()}
		}
		for name, call := range patternResults(p, anyValue(), anyValue(), anyPoint()) {
			if first, second := call().shown(-1), call().shown(-1); first != second {
				t.Errorf("%s: the results for %s are %s and %s", name, patternText(p), first, second)
			}
		}
	}
	for _, p := range wildPatterns() {
		for _, call := range patternResults(p, math.MinInt64, math.MaxInt64, anyPoint()) {
			call()
		}
	}
}

// Promise 7: the points of a pattern are those of its border and its interior, and each crease is
// found at both of its ends.

func TestPromise7PatternsAreValidOrNot(t *testing.T) {
	t.Parallel()
	counts := map[bool]int{}
	for i, p := range somePatterns(t) {
		if i >= len(patternTexts) && i%4 != 0 {
			continue // the oracle takes its time
		}
		for _, variant := range append(patternsLike(p, uint64(i)), p) {
			_, want := patternOracle(variant)
			if got := impl.ValidPattern(variant); got != want {
				t.Errorf("ValidPattern of %s is %v", patternText(variant), got)
			}
			counts[want]++
		}
	}
	if counts[true] < 1000 || counts[false] < 1000 {
		t.Errorf("the numbers of patterns that are valid and not are %v", counts)
	}
}

func TestPromise7PointsAreOnTheBorderOrInside(t *testing.T) {
	t.Parallel()
	for _, p := range somePatterns(t) {
		checkPattern(t, p)
	}
}

// checkPattern compares everything about a pattern with the oracle.
func checkPattern(t *testing.T, p impl.Pattern) {
	t.Helper()
	want, ok := patternOracle(p)
	if !ok {
		checkPatternRejected(t, p)
		return
	}
	border, interior := impl.BorderOf(p), impl.InteriorOf(p)
	if !slices.Equal(border, want.ring) || !slices.Equal(impl.PaperOf(p), want.paper) {
		t.Errorf("%s has the border %v and the paper %v, not %v and %v", patternText(p), border, impl.PaperOf(p), want.ring, want.paper)
	}
	all := slices.Concat(border, interior)
	slices.Sort(all)
	for k := range max(len(all), len(p.Points)) {
		if len(all) != len(p.Points) || all[k] != int64(k) {
			t.Fatalf("%s has the points %v on the border and %v inside", patternText(p), border, interior)
		}
	}
	if !slices.IsSorted(interior) {
		t.Errorf("the interior of %s is %v", patternText(p), interior)
	}
	checkEnds(t, p)
	checkKinds(t, p)
}

// checkEnds checks that every crease is found at its ends, and nowhere else.
func checkEnds(t *testing.T, p impl.Pattern) {
	t.Helper()
	found := make([]int, len(p.Creases))
	for k, q := range p.Points {
		if got := impl.PointOf(p, q); got != int64(k) {
			t.Errorf("the index of %v in %s is %d", q, patternText(p), got)
		}
		want, _ := spokesOracle(p, int64(k))
		got := impl.CreasesAt(p, int64(k))
		if !slices.Equal(got, want) {
			t.Errorf("the creases at %d of %s are %v, not %v", k, patternText(p), got, want)
		}
		for _, crease := range got {
			if c := p.Creases[crease]; c.From != int64(k) && c.To != int64(k) {
				t.Errorf("the crease %d of %s is found at %d", crease, patternText(p), k)
			}
			found[crease]++
		}
	}
	for i, c := range p.Creases {
		if found[i] != 2 || impl.CreaseBetween(p, c.From, c.To) != int64(i) || impl.CreaseBetween(p, c.To, c.From) != int64(i) {
			t.Errorf("the crease %d of %s is found %d times, and between its ends are %d and %d", i, patternText(p), found[i], impl.CreaseBetween(p, c.From, c.To), impl.CreaseBetween(p, c.To, c.From))
		}
	}
	for a := range min(len(p.Points), 12) {
		for b := range a + 1 {
			ends := func(c impl.Crease) bool { return c.From == int64(b) && c.To == int64(a) }
			if want := slices.IndexFunc(p.Creases, ends); impl.CreaseBetween(p, int64(a), int64(b)) != int64(want) {
				t.Errorf("the crease between %d and %d of %s is %d, not %d", a, b, patternText(p), impl.CreaseBetween(p, int64(a), int64(b)), want)
			}
		}
	}
}

func checkKinds(t *testing.T, p impl.Pattern) {
	t.Helper()
	want := make([]int64, 4)
	swapped := impl.Pattern{Points: slices.Clone(p.Points), Creases: slices.Clone(p.Creases)}
	for i, c := range p.Creases {
		want[c.Kind-1]++
		swapped.Creases[i].Kind = []int64{1, 3, 2, 4}[c.Kind-1]
	}
	if got := impl.CountKinds(p); !slices.Equal(got, want) {
		t.Errorf("%s has the kinds %v, not %v", patternText(p), got, want)
	}
	exchanged := impl.ExchangeKinds(p)
	if !impl.SamePattern(exchanged, swapped) || !impl.SamePattern(impl.ExchangeKinds(exchanged), p) || !impl.ValidPattern(exchanged) {
		t.Errorf("ExchangeKinds of %s is %s", patternText(p), patternText(exchanged))
	}
}
