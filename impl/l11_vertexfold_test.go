package impl

import (
	"slices"
	"testing"
)

// No cone with at most MaxVertexOrder sectors has more than MaxSectorOrders good orders, so that the
// exported functions do not show what happens then; these tests search with more sectors.

func TestTooManyGoodOrdersAreNotReturned(t *testing.T) {
	for _, v := range []struct {
		sectors []int64
		last    int64 // the kind of the last crease; all others are open
		count   int
		code    int64
	}{
		{slices.Repeat([]int64{1}, 8), KdOpen, 336, OK},
		{[]int64{1, 1, 2, 1, 1, 2, 2, 2, 2, 2}, KdMountain, 400, OK},
		{[]int64{1, 1, 2, 1, 1, 2, 2, 2, 2, 2}, KdValley, 400, OK},
		{[]int64{1, 1, 2, 1, 1, 2, 2, 2, 2, 2}, KdOpen, 0, ErrFull},
		{slices.Repeat([]int64{1}, 10), KdOpen, 0, ErrFull},
		{slices.Repeat([]int64{1}, 16), KdOpen, 0, ErrFull},
	} {
		f := openFan(v.sectors)
		f.kinds[len(f.kinds)-1] = v.last
		if got, code := pileOf(f).goodOrders(); len(got) != v.count || code != v.code {
			t.Errorf("%v with the last kind %d has %d good orders, %d, not %d, %d", v.sectors, v.last, len(got), code, v.count, v.code)
		}
	}
}

// What the search undoes is not seen in its results, but an order is only complete if every pair is.

func TestASearchLeavesNothingBehind(t *testing.T) {
	for _, sectors := range [][]int64{{8, 8}, {4, 4, 4, 4}, {2, 4, 6, 4}, {1, 2, 1, 1, 2, 1}} {
		p := pileOf(openFan(sectors))
		s := orderSearch{pile: p, order: make([]int64, p.count*p.count)}
		s.extend(p.pairs())
		if len(s.found) == 0 || slices.ContainsFunc(s.order, func(above int64) bool { return above != 0 }) {
			t.Errorf("behind %d good orders of %v, the search has the order %v", len(s.found), sectors, s.order)
		}
	}
}

// Fans that differ have different texts, so that none is counted for another one.

func TestTextsOfFansDiffer(t *testing.T) {
	seen := map[string]bool{}
	count := 0
	var extend func(f fan)
	extend = func(f fan) {
		seen[f.text()] = true
		count++
		if len(f.sectors) == 3 {
			return
		}
		for _, sector := range []int64{1, 2, 3, 4, 12, 16} {
			for kind := int64(KdMountain); kind <= KdOpen; kind++ {
				extend(fan{sectors: slices.Concat(f.sectors, []int64{sector}), kinds: slices.Concat(f.kinds, []int64{kind})})
			}
		}
	}
	extend(fan{})
	if len(seen) != count {
		t.Errorf("%d fans have %d texts", count, len(seen))
	}
}

func TestWaysToExceed(t *testing.T) {
	for count := range 9 {
		for mask := range 1 << (2 * count) {
			kinds := make([]int64, count)
			for i := range kinds {
				kinds[i] = []int64{KdMountain, KdValley, KdOpen, KdOpen}[mask>>(2*i)%4]
			}
			if mask%7 != 0 && count > 4 {
				continue
			}
			checkWays(t, kinds)
		}
	}
}

// checkWays makes the open creases mountains and valleys in all ways.
func checkWays(t *testing.T, kinds []int64) {
	t.Helper()
	ways := map[int64]int64{0: 1}
	for _, kind := range kinds {
		next := map[int64]int64{}
		for sum, count := range ways {
			if kind != KdValley {
				next[sum+1] += count
			}
			if kind != KdMountain {
				next[sum-1] += count
			}
		}
		ways = next
	}
	for wanted := int64(-10); wanted <= 10; wanted++ {
		if got := waysToExceed(kinds, wanted); got != ways[wanted] {
			t.Errorf("there are %d ways for %v to have %d more mountains than valleys, not %d", got, kinds, wanted, ways[wanted])
		}
	}
}
