package tests

import (
	"fmt"
	"math"
	"slices"
	"testing"

	"loop.example/g00857/impl"
)

// Promise 1 for chapter 11: every function returns, repeats its result, changes no argument, and keeps
// no memory of one.

// rowsOf shows a list of lists: each of its lists by itself, and the outer one by their lengths.
func rowsOf[T any](rows [][]T, marked T) []shownList {
	lengths := func() string {
		text := ""
		for _, row := range rows {
			text += fmt.Sprint(len(row), ";")
		}
		return text
	}
	var lists []shownList
	for _, row := range rows {
		lists = append(lists, listOf(row, marked))
	}
	return append(lists, shownList{lengths, func() { overwrite(rows, nil) }})
}

func coneResults(cone, kinds, order []int64) map[string]func() result {
	return map[string]func() result{
		"SectorPlaces": func() result {
			places, ok := impl.SectorPlaces(cone)
			return resultOf([]shownList{listOf(places, -99)}, ok)
		},
		"CrimpSectors": func() result {
			sectors, left, code := impl.CrimpSectors(cone, kinds)
			return resultOf([]shownList{listOf(sectors, -99), listOf(left, -99)}, code)
		},
		"AssignmentsOf": func() result {
			all, code := impl.AssignmentsOf(cone)
			return resultOf(rowsOf(all, -99), code)
		},
		"SectorOrders": func() result {
			all, code := impl.SectorOrders(cone, kinds)
			return resultOf(rowsOf(all, -99), code)
		},
		"KindsOfOrder": func() result {
			found, ok := impl.KindsOfOrder(cone, order)
			return resultOf([]shownList{listOf(found, -99)}, ok)
		},
		"the others": func() result {
			count, code := impl.CountAssignments(cone)
			return resultOf(nil, impl.ValidCone(cone), impl.FoldsAround(cone, kinds), count, code, impl.GoodSectorOrder(cone, kinds, order))
		},
	}
}

func checkConePure(t *testing.T, cone, kinds, order []int64) {
	t.Helper()
	sectors, sectorsKept := guard(cone, 2)
	creases, creasesKept := guard(kinds, impl.KdValley)
	above, aboveKept := guard(order, 1)
	kept := func() bool { return sectorsKept() && creasesKept() && aboveKept() }
	for name, call := range coneResults(sectors, creases, above) {
		checkResults(t, name, fmt.Sprint(cone, kinds, order), call, kept)
	}
}

func TestPromise1ConesAreNotChangedOrShared(t *testing.T) {
	t.Parallel()
	state := uint64(67)
	for _, cone := range allCones() {
		if len(cone) > 4 && nextRandom(&state, 150) > 0 {
			continue
		}
		order := make([]int64, len(cone)*len(cone))
		if orders := layOrders(cone, 2, 30000); len(orders) > 0 {
			order = orders[len(orders)-1]
		}
		checkConePure(t, cone, foldableKinds(&state, cone), order)
		checkConePure(t, cone, kindsInOrder(cone, order), order)
	}
	for _, list := range invalidConeLists() {
		list = list[:min(len(list), 40)]
		checkConePure(t, list, make([]int64, len(list)), make([]int64, len(list)*len(list)))
	}
}

func TestPromise1ConesReturnForAllArguments(t *testing.T) {
	t.Parallel()
	values := slices.Concat(extremes(), slices.Repeat([]int64{1, 2, 3, 4, 5, 6}, 40))
	state := uint64(71)
	anyList := func(length int64) []int64 {
		list := make([]int64, length)
		for i := range list {
			list[i] = values[nextRandom(&state, uint64(len(values)))]
		}
		return list
	}
	for range 20000 {
		cone := anyList(nextRandom(&state, 7))
		if nextRandom(&state, 2) == 0 {
			cone = allCones()[nextRandom(&state, 900)]
		}
		length := int64(len(cone)) + nextRandom(&state, 5)/4
		kinds, order := anyList(length), anyList(length*length)
		for name, call := range coneResults(cone, kinds, order) {
			if name == "AssignmentsOf" && len(cone) > 6 {
				continue // it takes its time, and has the cone as its only argument
			}
			if first, second := call().shown(-1), call().shown(-1); first != second {
				t.Errorf("%s: the results for %v, %v and %v are %s and %s", name, cone, kinds, order, first, second)
			}
		}
	}
	for _, length := range []int{2, 4, 16, 17, 256, 100000} {
		for _, value := range []int64{math.MinInt64, -1, 0, 1, 2, math.MaxInt64} {
			long := slices.Repeat([]int64{value}, length)
			for _, cone := range [][]int64{nil, {8, 8}, {1, 2, 3, 2}, long} {
				for _, call := range coneResults(cone, long, long) {
					call()
				}
			}
		}
	}
}

// Promise 12: a cone can be folded with some kinds exactly if its sectors have an order without
// crossings; crimping preserves that, and the kinds are counted exactly.

// allowsKinds reports whether kinds, of which some may be open, agree with others.
func allowsKinds(kinds, others []int64) bool {
	for i, kind := range kinds {
		if kind != impl.KdOpen && kind != others[i] {
			return false
		}
	}
	return true
}

func checkOrders(t *testing.T, cone, kinds []int64, want [][]int64) {
	t.Helper()
	got, code := impl.SectorOrders(cone, kinds)
	if code != impl.OK || !slices.EqualFunc(got, want, slices.Equal[[]int64]) {
		t.Errorf("SectorOrders(%v, %v) has %d orders, %d, not %d", cone, kinds, len(got), code, len(want))
	}
}

func TestPromise12OrdersAreThoseWithoutCrossings(t *testing.T) {
	t.Parallel()
	state, most := uint64(73), 0
	for _, cone := range allCones() {
		if len(cone) > impl.MaxVertexOrder {
			continue
		}
		all := layOrders(cone, math.MaxInt, math.MaxInt)
		most = max(most, len(all))
		checkOrders(t, cone, slices.Repeat([]int64{impl.KdOpen}, len(cone)), all)
		for range 3 {
			kinds := kindsInOrder(cone, all[nextRandom(&state, uint64(len(all)))])
			for i := range kinds {
				if nextRandom(&state, 3) == 0 {
					kinds[i] = impl.KdMountain + nextRandom(&state, 3)
				}
			}
			checkOrders(t, cone, kinds, slices.DeleteFunc(slices.Clone(all), func(order []int64) bool {
				return !allowsKinds(kinds, kindsInOrder(cone, order))
			}))
		}
	}
	// No cone has more good orders than the one with eight equal sectors, so that they never are too many.
	if most != 336 || most > impl.MaxSectorOrders {
		t.Errorf("the greatest number of orders is %d", most)
	}
}

// checkFoldings compares everything about the kinds of a cone with those for which there is an order.
func checkFoldings(t *testing.T, cone []int64, orders [][]int64) {
	t.Helper()
	foldable := map[string]bool{}
	for _, order := range orders {
		foldable[fmt.Sprint(kindsInOrder(cone, order))] = true
	}
	var want [][]int64
	for mask := range 1 << len(cone) {
		kinds := kindsOfMask(len(cone), mask)
		folds := foldable[fmt.Sprint(kinds)]
		if folds {
			want = append(want, kinds)
		}
		if impl.FoldsAround(cone, kinds) != folds {
			t.Errorf("FoldsAround(%v, %v) is %v", cone, kinds, !folds)
		}
	}
	if got, code := impl.AssignmentsOf(cone); code != impl.OK || !slices.EqualFunc(got, want, slices.Equal[[]int64]) {
		t.Errorf("the kinds of %v are %v, %d, not %v", cone, got, code, want)
	}
	if count, code := impl.CountAssignments(cone); count != int64(len(want)) || code != impl.OK {
		t.Errorf("the number of kinds of %v is %d, %d, not %d", cone, count, code, len(want))
	}
}

func TestPromise12ConesFoldExactlyIfThereIsAnOrder(t *testing.T) {
	t.Parallel()
	state := uint64(79)
	for _, cone := range allCones() {
		if len(cone) <= impl.MaxVertexOrder && (len(cone) < 8 || nextRandom(&state, 4) == 0) || len(cone) == impl.MaxVertex && isLeastCone(cone) && nextRandom(&state, 2) == 0 {
			checkFoldings(t, cone, layOrders(cone, math.MaxInt, math.MaxInt))
		}
		if len(cone) > impl.MaxVertexOrder {
			continue
		}
		for range 4 {
			kinds := foldableKinds(&state, cone)
			orders, code := impl.SectorOrders(cone, kinds)
			if folds := impl.FoldsAround(cone, kinds); !slices.Contains(kinds, impl.KdOpen) && (code != impl.OK || folds != (len(orders) > 0)) {
				t.Errorf("%v with %v has the orders %v, %d, and FoldsAround is %v", cone, kinds, orders, code, folds)
			}
		}
	}
}

func TestPromise12LargeConesFoldHoweverTheyAreCrimped(t *testing.T) {
	t.Parallel()
	for _, cone := range allCones() {
		if len(cone) <= impl.MaxVertex || !isLeastCone(cone) {
			continue
		}
		for mask := range 1 << len(cone) {
			kinds := kindsOfMask(len(cone), mask)
			if want := foldsOracle(cone, kinds, mask%3); impl.FoldsAround(cone, kinds) != want {
				t.Errorf("FoldsAround(%v, %v) is not %v", cone, kinds, want)
			}
		}
	}
}

func TestPromise12CrimpingPreservesFoldings(t *testing.T) {
	t.Parallel()
	state := uint64(83)
	counts := map[int64]int{}
	for _, cone := range allCones() {
		for i := range 6 {
			kinds := randomKinds(&state, len(cone), false)
			if i > 1 {
				kinds = foldableKinds(&state, cone)
			}
			if !slices.Contains(kinds, impl.KdOpen) {
				counts[checkCrimped(t, cone, kinds)]++
			}
		}
	}
	checkCounts(t, counts, map[int64]int{impl.OK: 10000, impl.ErrState: 20, impl.ErrNotFlat: 4000})
}

// checkCrimped compares a crimped cone with the oracle, and checks that it can be folded exactly if the
// cone can, and that there is an order exactly if there is one for the cone.
func checkCrimped(t *testing.T, cone, kinds []int64) int64 {
	t.Helper()
	want, wantKinds, wantCode := crimpOracle(cone, kinds)
	sectors, left, code := impl.CrimpSectors(cone, kinds)
	if code != wantCode || !slices.Equal(sectors, want) || !slices.Equal(left, wantKinds) {
		t.Errorf("%v with %v is crimped to %v with %v, %d, not to %v with %v, %d", cone, kinds, sectors, left, code, want, wantKinds, wantCode)
	}
	folds := impl.FoldsAround(cone, kinds)
	switch code {
	case impl.OK:
		if !impl.ValidCone(sectors) || len(sectors) >= len(cone) || len(left) != len(sectors) || impl.FoldsAround(sectors, left) != folds {
			t.Errorf("%v with %v is crimped to %v with %v, and FoldsAround is %v before", cone, kinds, sectors, left, folds)
		}
	case impl.ErrNotFlat:
		if folds {
			t.Errorf("%v with %v cannot be crimped, but folded", cone, kinds)
		}
	}
	return code
}

func TestPromise12CrimpingPreservesOrders(t *testing.T) {
	t.Parallel()
	state := uint64(89)
	for _, cone := range allCones() {
		if len(cone) > impl.MaxVertexOrder || nextRandom(&state, 3) > 0 {
			continue
		}
		kinds := foldableKinds(&state, cone)
		sectors, left, code := impl.CrimpSectors(cone, kinds)
		if code != impl.OK {
			continue
		}
		before, _ := impl.SectorOrders(cone, kinds)
		behind, _ := impl.SectorOrders(sectors, left)
		if (len(before) > 0) != (len(behind) > 0) {
			t.Errorf("%v with %v has %d orders, but %v with %v has %d", cone, kinds, len(before), sectors, left, len(behind))
		}
	}
}

func TestPromise12KindsAreCountedExactly(t *testing.T) {
	t.Parallel()
	counts := map[string]int64{}
	for _, cone := range allCones() {
		if !isLeastCone(cone) {
			continue
		}
		count := int64(0)
		for mask := range 1 << len(cone) {
			if foldsOracle(cone, kindsOfMask(len(cone), mask), 1) {
				count++
			}
		}
		counts[sectorLetters(cone)] = count
	}
	// What is counted does not depend on where a cone begins, and in which direction it is run through.
	for _, cone := range allCones() {
		want := counts[sectorLetters(canonicalOracle(cone))]
		if got, code := impl.CountAssignments(cone); got != want || code != impl.OK {
			t.Errorf("CountAssignments(%v) is %d, %d, not %d", cone, got, code, want)
		}
		if all, code := impl.AssignmentsOf(cone); len(cone) <= 6 && int64(len(all)) != want || len(cone) > impl.MaxVertex && (code != impl.ErrFull || len(all) != 0) {
			t.Errorf("AssignmentsOf(%v) has %d elements, %d, not %d", cone, len(all), code, want)
		}
	}
}

// checkOrder compares what is said about an order with the oracle, and returns the conditions that it
// breaks.
func checkOrder(t *testing.T, cone, kinds, order []int64) []int {
	t.Helper()
	broken := brokenOracle(cone, kinds, order)
	if good := impl.GoodSectorOrder(cone, kinds, order); good != (len(broken) == 0) {
		t.Errorf("GoodSectorOrder(%v, %v, %v) is %v, but the conditions %v are broken", cone, kinds, order, good, broken)
	}
	var want []int64
	if len(brokenOracle(cone, slices.Repeat([]int64{impl.KdOpen}, len(cone)), order)) == 0 {
		want = kindsInOrder(cone, order)
	}
	if got, ok := impl.KindsOfOrder(cone, order); ok != (want != nil) || !slices.Equal(got, want) {
		t.Errorf("KindsOfOrder(%v, %v) is %v, %v, not %v", cone, order, got, ok, want)
	}
	return broken
}

// ordersLike returns changes of an order: some pairs are exchanged, or one element is another number.
func ordersLike(state *uint64, cone, order []int64) [][]int64 {
	n := uint64(len(cone))
	var list [][]int64
	for change := range 10 {
		changed := slices.Clone(order)
		for range 1 + change/4 {
			i, k := nextRandom(state, n), nextRandom(state, n)
			changed[i*int64(n)+k], changed[k*int64(n)+i] = changed[k*int64(n)+i], changed[i*int64(n)+k]
		}
		if change == 9 {
			changed[nextRandom(state, n*n)] = []int64{-2, -1, 0, 1, 2, math.MinInt64, math.MaxInt64}[nextRandom(state, 7)]
		}
		list = append(list, changed)
	}
	return list
}

func TestPromise12GoodOrdersSatisfyAllConditions(t *testing.T) {
	t.Parallel()
	state := uint64(97)
	counts := map[string]int{}
	for _, cone := range allCones() {
		if len(cone) > 6 && nextRandom(&state, 9) > 0 {
			continue
		}
		for _, order := range layOrders(cone, 6, 30000) {
			kinds := kindsInOrder(cone, order)
			for i := range kinds {
				if nextRandom(&state, 3) == 0 {
					kinds[i] = impl.KdOpen
				}
			}
			for _, variant := range append(ordersLike(&state, cone, order), order) {
				counts[fmt.Sprint(checkOrder(t, cone, kinds, variant))]++
			}
		}
	}
	for conditions, least := range map[string]int{"[]": 10000, "[1]": 300, "[2]": 5, "[3]": 3000, "[4]": 1000, "[5]": 50, "[1 2 3 4 5]": 1000, "[2 3]": 5000} {
		if counts[conditions] < least {
			t.Errorf("the numbers of orders by the conditions that they break are %v", counts)
		}
	}
}

// TestPromise12AllOrdersOfSmallCones tries all orders of four sectors, and all lists for two.
func TestPromise12AllOrdersOfSmallCones(t *testing.T) {
	t.Parallel()
	for mask := range 5 * 5 * 5 * 5 {
		order := []int64{int64(mask%5) - 2, int64(mask/5%5) - 2, int64(mask/25%5) - 2, int64(mask/125) - 2}
		for _, kinds := range [][]int64{{2, 2}, {2, 3}, {3, 2}, {3, 3}, {4, 2}, {3, 4}, {4, 4}} {
			checkOrder(t, []int64{3, 3}, kinds, order)
		}
	}
	state := uint64(101)
	for _, cone := range allCones() {
		for mask := range 64 {
			if len(cone) == 4 {
				checkOrder(t, cone, randomKinds(&state, 4, true), orderOfMask(mask))
			}
		}
	}
}

// orderOfMask returns an order of four sectors that overlap one another.
func orderOfMask(mask int) []int64 {
	order := make([]int64, 16)
	for i := range 4 {
		for k := range i {
			above := int64(mask%2)*2 - 1
			order[i*4+k], order[k*4+i] = above, -above
			mask /= 2
		}
	}
	return order
}
