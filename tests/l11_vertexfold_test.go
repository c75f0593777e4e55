package tests

import (
	"fmt"
	"math"
	"slices"
	"testing"

	"loop.example/g00857/impl"
)

func TestConeConstants(t *testing.T) {
	if got := fmt.Sprint(impl.MaxVertex, impl.MaxVertexOrder, impl.MaxSectorOrders); got != "10 8 400" {
		t.Error(got)
	}
}

// ones returns a cone of equal sectors.
func ones(count int) []int64 { return slices.Repeat([]int64{1}, count) }

// invalidConeLists are lists with an odd number of elements, with an alternating sum other than 0, with
// elements below 1, with a sum above FullTurn, and such with sums that are right only because they overflow.
func invalidConeLists() [][]int64 {
	list := [][]int64{
		nil, {}, {1}, {8}, {16}, {4, 4, 4}, {2, 4, 2}, {1, 1, 1, 1, 1}, ones(15), ones(17), ones(18), ones(32),
		{1, 2}, {8, 7}, {7, 8}, {4, 4, 4, 3}, {4, 4, 4, 5}, {5, 4, 4, 4}, {2, 2, 6, 5}, {1, 2, 1, 2}, {15, 1}, {1, 15}, {4, 2, 6, 4},
		{9, 9}, {16, 16}, {4, 4, 4, 5, 5, 4}, {1, 8, 8, 1}, {8, 1, 1, 8}, {2, 2, 2, 2, 2, 2, 3, 3},
		{0, 0}, {-1, -1}, {-4, -4}, {0, 4, 4, 0}, {4, 0, 0, 4}, {4, -4, -4, 4}, {4, 4, 0, 0}, {0, 0, 4, 4}, {6, 6, -2, -2}, {9, 9, -1, -1}, {20, 20, -12, -12}, {8, 8, 0, 0}, {8, 0, 0, 8, 0, 0},
		{math.MaxInt64, math.MaxInt64}, {math.MinInt64, math.MinInt64}, {math.MaxInt64, math.MaxInt64, 1, 1}, {1, 1, math.MaxInt64, math.MaxInt64}, {math.MinInt64, math.MinInt64, 4, 4}, {4, 4, math.MinInt64, math.MinInt64},
		{1 << 62, 1 << 62, 1 << 62, 1 << 62, 4, 4}, {4, 4, 1 << 62, 1 << 62, 1 << 62, 1 << 62}, {1<<32 + 4, 1<<32 + 4}, {math.MaxInt64, 1, 2, math.MinInt64}, {1 << 63 >> 1, 4, 1 << 62, 4},
	}
	for _, value := range append(extremes(), 16) {
		for _, count := range []int{18, 1000, 100000} {
			list = append(list, slices.Repeat([]int64{value}, count))
		}
		list = append(list, []int64{4, 4, value, 4, 4}, append(ones(16), value), append(ones(16), value, value), append(make([]int64, 50000), value))
	}
	return list
}

func TestValidCone(t *testing.T) {
	t.Parallel()
	if len(allCones()) != 4707 {
		t.Fatalf("there are %d cones", len(allCones()))
	}
	state := uint64(103)
	for _, cone := range allCones() {
		if !impl.ValidCone(cone) {
			t.Errorf("ValidCone(%v) is false", cone)
		}
		// A change of one sector changes the alternating sum, and a sector more the number of sectors.
		changed, i := slices.Clone(cone), nextRandom(&state, uint64(len(cone)))
		for _, change := range []int64{1, -1, 16, -cone[i], math.MinInt64, math.MaxInt64} {
			changed[i] = cone[i] + change
			if impl.ValidCone(changed) {
				t.Errorf("ValidCone(%v) is true", changed)
			}
		}
		if more := slices.Insert(slices.Clone(cone), int(i), 1); impl.ValidCone(more) {
			t.Errorf("ValidCone(%v) is true", more)
		}
	}
	for _, list := range invalidConeLists() {
		if impl.ValidCone(list) {
			t.Errorf("ValidCone(%v) is true", list[:min(len(list), 20)])
		}
	}
	for mask := range 12 * 12 * 12 * 12 {
		list := []int64{int64(mask%12) - 1, int64(mask/12%12) - 1, int64(mask/144%12) - 1, int64(mask/1728) - 1}
		sum := list[0] + list[1] + list[2] + list[3]
		if want := slices.Min(list) >= 1 && sum <= 16 && list[0]+list[2] == list[1]+list[3]; impl.ValidCone(list) != want {
			t.Errorf("ValidCone(%v) is not %v", list, want)
		}
	}
}

func TestSectorPlaces(t *testing.T) {
	for _, v := range []struct{ cone, want []int64 }{
		{[]int64{4, 2, 4, 6}, []int64{0, 4, 2, 6}}, {[]int64{8, 8}, []int64{0, 8}}, {[]int64{1, 1}, []int64{0, 1}}, {[]int64{1, 3, 4, 2}, []int64{0, 1, -2, 2}}, {[]int64{1, 7, 7, 1}, []int64{0, 1, -6, 1}},
		{ones(16), []int64{0, 1, 0, 1, 0, 1, 0, 1, 0, 1, 0, 1, 0, 1, 0, 1}}, {[]int64{4, 1, 1, 4, 1, 1}, []int64{0, 4, 3, 4, 0, 1}}, {[]int64{1, 2, 1, 1, 2, 1}, []int64{0, 1, -1, 0, -1, 1}},
	} {
		if got, ok := impl.SectorPlaces(v.cone); !ok || !slices.Equal(got, v.want) {
			t.Errorf("the places of %v are %v, %v", v.cone, got, ok)
		}
	}
	for _, cone := range allCones() {
		if got, ok := impl.SectorPlaces(cone); !ok || !slices.Equal(got, folderOf(cone).places) {
			t.Errorf("the places of %v are %v, %v", cone, got, ok)
		}
	}
}

func TestCrimpSectors(t *testing.T) {
	for _, v := range []struct {
		cone    []int64
		kinds   string
		sectors []int64
		left    string
		code    int64
	}{
		{[]int64{2, 4, 6, 4}, "MVVV", []int64{6, 6}, "VV", impl.OK}, {[]int64{2, 4, 6, 4}, "VMVM", []int64{6, 6}, "MV", impl.OK}, {[]int64{2, 4, 6, 4}, "MMVV", nil, "", impl.ErrNotFlat}, {[]int64{2, 4, 6, 4}, "VVMV", nil, "", impl.ErrNotFlat},
		// The number of sectors of the run is odd.
		{[]int64{4, 2, 4, 6}, "MMVV", []int64{6, 6}, "MV", impl.OK}, {[]int64{6, 4, 2, 4}, "MVMV", []int64{6, 6}, "VM", impl.OK}, {[]int64{4, 6, 4, 2}, "MVMV", []int64{6, 6}, "MV", impl.OK},
		{[]int64{1, 1, 1, 3, 4, 2}, "MVMVMV", []int64{4, 4}, "VM", impl.OK}, {[]int64{1, 1, 1, 3, 4, 2}, "MMVVVV", []int64{4, 4}, "VV", impl.OK}, {[]int64{1, 1, 1, 3, 4, 2}, "MMVMVV", nil, "", impl.ErrNotFlat}, {[]int64{1, 1, 1, 3, 4, 2}, "VVVVMM", nil, "", impl.ErrNotFlat},
		// The number of sectors of the run is even.
		{[]int64{2, 2, 6, 6}, "MVVV", []int64{6, 6}, "VV", impl.OK}, {[]int64{2, 2, 6, 6}, "MMVV", []int64{6, 6}, "VM", impl.OK}, {[]int64{2, 2, 6, 6}, "MMMV", nil, "", impl.ErrNotFlat}, {[]int64{2, 2, 6, 6}, "VVVV", nil, "", impl.ErrNotFlat},
		{[]int64{1, 1, 1, 1, 5, 5}, "MVMVMV", []int64{5, 5}, "VM", impl.OK}, {[]int64{1, 1, 1, 1, 5, 5}, "VVMVMM", []int64{5, 5}, "MV", impl.OK}, {[]int64{1, 1, 1, 1, 5, 5}, "VVMVVM", nil, "", impl.ErrNotFlat}, {[]int64{3, 1, 1, 4, 2, 1}, "MMMMVV", nil, "", impl.ErrNotFlat},
		{[]int64{3, 1, 1, 4, 2, 1}, "MMVVVM", []int64{3, 4, 2, 1}, "MVVM", impl.OK}, {[]int64{3, 1, 1, 4, 2, 1}, "MMMVVM", []int64{3, 4, 2, 1}, "MMVM", impl.OK},
		// The run goes around the end of the list, and crease 0 is one of its inner creases.
		{[]int64{2, 6, 6, 2}, "MVMV", []int64{6, 6}, "MV", impl.OK}, {[]int64{2, 6, 6, 2}, "MMVV", []int64{6, 6}, "VM", impl.OK}, {[]int64{2, 6, 6, 2}, "MMVM", nil, "", impl.ErrNotFlat}, {[]int64{1, 3, 4, 2, 1, 1}, "MVVVMV", []int64{4, 4}, "VV", impl.OK},
		{[]int64{1, 3, 4, 2, 1, 1}, "VVVMMM", []int64{4, 4}, "MV", impl.OK}, {[]int64{1, 3, 4, 2, 1, 1}, "MVVVMM", nil, "", impl.ErrNotFlat}, {[]int64{1, 2, 2, 3, 3, 1}, "MVMVMM", []int64{3, 2, 2, 3}, "MMMV", impl.OK},
		{[]int64{1, 3, 4, 2, 1, 1}, "MVMVVM", []int64{4, 4}, "VM", impl.OK}, {[]int64{1, 4, 5, 2}, "MVMM", []int64{5, 5}, "MM", impl.OK},
		// Of two runs, it is the one with the least From, although the other one contains crease 0 or element 0.
		{[]int64{1, 4, 2, 3, 5, 1}, "MVMVMM", []int64{5, 5, 1, 1}, "VMMM", impl.OK}, {[]int64{1, 4, 2, 3, 5, 1}, "VVMVMV", []int64{5, 5, 1, 1}, "VMVV", impl.OK}, {[]int64{1, 4, 2, 3, 5, 1}, "MVMMVM", nil, "", impl.ErrNotFlat},
		{[]int64{1, 2, 1, 3, 5, 2}, "MVMVMV", []int64{3, 1, 3, 5}, "VMVM", impl.OK}, {[]int64{1, 2, 1, 3, 5, 2}, "MMMVMV", nil, "", impl.ErrNotFlat}, {[]int64{3, 1, 3, 5, 2, 2}, "VMVMMM", []int64{5, 5, 2, 2}, "VMMM", impl.OK}, {[]int64{3, 1, 3, 5, 2, 2}, "VMMMMM", nil, "", impl.ErrNotFlat},
		// All sectors are equal.
		{[]int64{4, 4}, "VV", nil, "", impl.ErrState}, {[]int64{8, 8}, "MV", nil, "", impl.ErrState}, {[]int64{4, 4, 4, 4}, "MMMV", nil, "", impl.ErrState}, {ones(16), "MVMVMVMVMVMVMVMM", nil, "", impl.ErrState},
	} {
		checkCrimpExample(t, v.cone, kindsOf(v.kinds), v.sectors, v.left, v.code)
	}
}

// checkCrimpExample compares with what is written, if it is, and with the oracle.
func checkCrimpExample(t *testing.T, cone, kinds, sectors []int64, left string, code int64) {
	t.Helper()
	if got := checkCrimped(t, cone, kinds); got != code {
		t.Errorf("%v with %v is crimped with the code %d, not %d", cone, kinds, got, code)
	}
	got, gotKinds, _ := impl.CrimpSectors(cone, kinds)
	if code != impl.OK && len(got)+len(gotKinds) != 0 || left != "" && (!slices.Equal(got, sectors) || !slices.Equal(gotKinds, kindsOf(left))) {
		t.Errorf("%v with %v is crimped to %v with %v, not to %v with %s", cone, kinds, got, gotKinds, sectors, left)
	}
}

func TestFoldsAround(t *testing.T) {
	for _, v := range []struct {
		cone  []int64
		kinds string
		want  bool
	}{
		{[]int64{2, 4, 6, 4}, "MVVV", true}, {[]int64{2, 4, 6, 4}, "MVVM", false}, {[]int64{2, 4, 6, 4}, "VMVV", true}, {[]int64{2, 4, 6, 4}, "VVVV", false}, {[]int64{2, 4, 6, 4}, "VVVM", false},
		{[]int64{8, 8}, "MM", true}, {[]int64{8, 8}, "VV", true}, {[]int64{8, 8}, "MV", false}, {[]int64{1, 1}, "VM", false}, {[]int64{1, 1}, "MM", true},
		{[]int64{4, 4, 4, 4}, "MMMV", true}, {[]int64{4, 4, 4, 4}, "VMVV", true}, {[]int64{4, 4, 4, 4}, "MMVV", false}, {[]int64{4, 4, 4, 4}, "MMMM", false},
		{[]int64{2, 2, 6, 6}, "MVVV", true}, {[]int64{2, 2, 6, 6}, "VVVM", false}, {[]int64{2, 2, 6, 6}, "MMVM", true}, {ones(16), "MVMVMVMVMVMVMVMM", true}, {ones(16), "MVMVMVMVMVMVMVMV", false}, {ones(16), "MMMMMMMMMMMMMMMM", false},
		// There are two steps. The second one may be impossible although the numbers of mountains and valleys differ by 2.
		{[]int64{1, 4, 2, 3, 5, 1}, "MVMVMM", true}, {[]int64{1, 4, 2, 3, 5, 1}, "VMMVVV", true}, {[]int64{1, 4, 2, 3, 5, 1}, "VVMVMV", false}, {[]int64{1, 4, 2, 3, 5, 1}, "VVMVMM", false},
	} {
		if impl.FoldsAround(v.cone, kindsOf(v.kinds)) != v.want {
			t.Errorf("FoldsAround(%v, %s) is not %v", v.cone, v.kinds, v.want)
		}
	}
}

func TestAssignments(t *testing.T) {
	for _, v := range []struct {
		cone  []int64
		count int64
	}{
		{[]int64{4, 4, 4, 4}, 8}, {[]int64{2, 2, 6, 6}, 6}, {[]int64{2, 4, 6, 4}, 4}, {[]int64{8, 8}, 2}, {[]int64{1, 1}, 2}, {ones(4), 8}, {ones(6), 30}, {ones(8), 112}, {ones(10), 420},
		{ones(12), 1584}, {ones(14), 6006}, {ones(16), 22880}, {[]int64{1, 1, 1, 3, 4, 2}, 12}, {[]int64{1, 4, 2, 3, 5, 1}, 12}, {append(ones(13), 2, 1)[:14], 0},
	} {
		if !impl.ValidCone(v.cone) {
			continue
		}
		if got, code := impl.CountAssignments(v.cone); got != v.count || code != impl.OK {
			t.Errorf("CountAssignments(%v) is %d, %d, not %d", v.cone, got, code, v.count)
		}
		all, code := impl.AssignmentsOf(v.cone)
		if len(v.cone) <= impl.MaxVertex && (code != impl.OK || int64(len(all)) != v.count) || len(v.cone) > impl.MaxVertex && (code != impl.ErrFull || len(all) != 0) {
			t.Errorf("AssignmentsOf(%v) has %d elements, %d", v.cone, len(all), code)
		}
	}
	for _, v := range []struct {
		cone []int64
		want string
	}{
		{[]int64{8, 8}, "[[2 2] [3 3]]"},
		{[]int64{2, 4, 6, 4}, "[[2 3 2 2] [2 3 3 3] [3 2 2 2] [3 2 3 3]]"},
		{[]int64{2, 2, 6, 6}, "[[2 2 3 2] [2 3 2 2] [2 3 3 3] [3 2 2 2] [3 2 3 3] [3 3 2 3]]"},
		{[]int64{4, 4, 4, 4}, "[[2 2 2 3] [2 2 3 2] [2 3 2 2] [2 3 3 3] [3 2 2 2] [3 2 3 3] [3 3 2 3] [3 3 3 2]]"},
	} {
		if got, code := impl.AssignmentsOf(v.cone); code != impl.OK || fmt.Sprint(got) != v.want {
			t.Errorf("AssignmentsOf(%v) is %v, %d, not %s", v.cone, got, code, v.want)
		}
	}
}

func TestSectorOrders(t *testing.T) {
	for _, v := range []struct {
		cone  []int64
		kinds string
		want  string
	}{
		{[]int64{8, 8}, "OO", "[[0 -1 1 0] [0 1 -1 0]]"}, {[]int64{8, 8}, "MM", "[[0 1 -1 0]]"}, {[]int64{8, 8}, "VV", "[[0 -1 1 0]]"}, {[]int64{8, 8}, "MV", "[]"}, {[]int64{8, 8}, "OV", "[[0 -1 1 0]]"}, {[]int64{8, 8}, "MO", "[[0 1 -1 0]]"},
		{[]int64{2, 4, 6, 4}, "MVVV", "[[0 -1 1 1 1 0 1 1 -1 -1 0 -1 -1 -1 1 0]]"}, {[]int64{2, 4, 6, 4}, "VVVV", "[]"},
	} {
		if got, code := impl.SectorOrders(v.cone, kindsOf(v.kinds)); code != impl.OK || fmt.Sprint(got) != v.want {
			t.Errorf("SectorOrders(%v, %s) is %v, %d, not %s", v.cone, v.kinds, got, code, v.want)
		}
	}
	for _, v := range []struct {
		cone []int64
		want int
		code int64
	}{
		{ones(4), 8, impl.OK}, {ones(6), 48, impl.OK}, {ones(8), 336, impl.OK}, {slices.Repeat([]int64{2}, 8), 336, impl.OK}, {ones(10), 0, impl.ErrFull}, {ones(16), 0, impl.ErrFull}, {[]int64{1, 1, 1, 1, 1, 1, 1, 1, 2, 2}, 0, impl.ErrFull},
		{[]int64{2, 4, 6, 4}, 4, impl.OK},
	} {
		got, code := impl.SectorOrders(v.cone, slices.Repeat([]int64{impl.KdOpen}, len(v.cone)))
		if code != v.code || len(got) != v.want {
			t.Errorf("SectorOrders(%v) has %d elements, %d, not %d", v.cone, len(got), code, v.want)
		}
	}
	// There are too many sectors even if no order is good.
	if got, code := impl.SectorOrders(ones(10), slices.Repeat([]int64{impl.KdMountain}, 10)); code != impl.ErrFull || len(got) != 0 {
		t.Errorf("SectorOrders of ten sectors is %v, %d", got, code)
	}
}

func TestGoodSectorOrder(t *testing.T) {
	for _, v := range []struct {
		why    string
		cone   []int64
		kinds  string
		order  []int64
		broken string
	}{
		{"the example with two mountains", []int64{8, 8}, "MM", []int64{0, 1, -1, 0}, "[]"},
		{"the example with two valleys", []int64{8, 8}, "VV", []int64{0, -1, 1, 0}, "[]"},
		{"open kinds", []int64{8, 8}, "OO", []int64{0, -1, 1, 0}, "[]"},
		{"one open kind", []int64{8, 8}, "OV", []int64{0, -1, 1, 0}, "[]"},
		{"both are above the other one", []int64{8, 8}, "MM", []int64{0, 1, 1, 0}, "[1]"},
		{"both are below the other one", []int64{8, 8}, "OO", []int64{0, -1, -1, 0}, "[1]"},
		{"a pair is missing", []int64{8, 8}, "OO", []int64{0, 0, 0, 0}, "[1]"},
		{"a half of a pair is missing", []int64{8, 8}, "OO", []int64{0, 1, 0, 0}, "[1]"},
		{"a sector is above itself", []int64{8, 8}, "OO", []int64{1, 1, -1, 0}, "[1]"},
		{"the last sector is below itself", []int64{8, 8}, "OO", []int64{0, 1, -1, -1}, "[1]"},
		{"greater numbers", []int64{8, 8}, "OO", []int64{0, 2, -2, 0}, "[1]"},
		{"the greatest and the least number", []int64{8, 8}, "OO", []int64{0, math.MaxInt64, math.MinInt64, 0}, "[1]"},
		{"twice the least number", []int64{8, 8}, "OO", []int64{0, math.MinInt64, math.MinInt64, 0}, "[1]"},
		{"no elements", []int64{8, 8}, "OO", nil, "[1]"},
		{"an element less", []int64{8, 8}, "OO", []int64{0, 1, -1}, "[1]"},
		{"an element more", []int64{8, 8}, "OO", []int64{0, 1, -1, 0, 0}, "[1]"},
		{"sectors that do not overlap", []int64{4, 1, 1, 4, 1, 1}, "OOOOOO", apartOrder(0), "[]"},
		{"one of two sectors that do not overlap is above", []int64{4, 1, 1, 4, 1, 1}, "OOOOOO", apartOrder(1), "[1]"},
		{"one of two sectors that do not overlap is below", []int64{4, 1, 1, 4, 1, 1}, "OOOOOO", apartOrder(-1), "[1]"},
		{"a circle of three", []int64{1, 1, 1, 1}, "OOOO", []int64{0, -1, 1, 1, 1, 0, -1, -1, -1, 1, 0, 1, -1, 1, -1, 0}, "[2]"},
		{"a circle of three in a longer cone", []int64{1, 2, 2, 1}, "OOOO", []int64{0, -1, 1, -1, 1, 0, -1, 1, -1, 1, 0, -1, 1, -1, 1, 0}, "[2]"},
		{"a sector runs through a crease", []int64{1, 1, 2, 2}, "OOOO", []int64{0, -1, -1, -1, 1, 0, 1, -1, 1, -1, 0, -1, 1, 1, 1, 0}, "[3]"},
		{"another sector runs through a crease", []int64{2, 2, 1, 1}, "OOOO", []int64{0, 1, 1, -1, -1, 0, -1, -1, -1, 1, 0, -1, 1, 1, 1, 0}, "[3]"},
		{"two creases cross", []int64{1, 1, 1, 1}, "OOOO", []int64{0, -1, 1, 1, 1, 0, 1, 1, -1, -1, 0, 1, -1, -1, -1, 0}, "[4]"},
		{"two creases cross at the other place", []int64{2, 1, 1, 2}, "OOOO", []int64{0, 1, 1, 1, -1, 0, 1, -1, -1, -1, 0, -1, -1, 1, 1, 0}, "[4]"},
		{"valleys that are mountains", []int64{8, 8}, "VV", []int64{0, 1, -1, 0}, "[5]"},
		{"mountains that are valleys", []int64{8, 8}, "MM", []int64{0, -1, 1, 0}, "[5]"},
		{"only crease 0 is wrong", []int64{8, 8}, "VM", []int64{0, 1, -1, 0}, "[5]"},
		{"only the last crease is wrong", []int64{8, 8}, "MV", []int64{0, 1, -1, 0}, "[5]"},
		{"the open crease would not be wrong", []int64{8, 8}, "OV", []int64{0, 1, -1, 0}, "[5]"},
	} {
		if got := fmt.Sprint(checkOrder(t, v.cone, kindsOf(v.kinds), v.order)); got != v.broken {
			t.Errorf("%s: the conditions %s are broken, not %s", v.why, got, v.broken)
		}
	}
}

func TestKindsOfOrder(t *testing.T) {
	for _, v := range []struct{ cone, order, want []int64 }{
		{[]int64{8, 8}, []int64{0, 1, -1, 0}, []int64{2, 2}}, {[]int64{8, 8}, []int64{0, -1, 1, 0}, []int64{3, 3}},
		{[]int64{2, 4, 6, 4}, []int64{0, -1, 1, 1, 1, 0, 1, 1, -1, -1, 0, -1, -1, -1, 1, 0}, []int64{2, 3, 3, 3}},
		{[]int64{4, 2, 4, 6}, []int64{0, -1, -1, -1, 1, 0, -1, -1, 1, 1, 0, -1, 1, 1, 1, 0}, []int64{3, 3, 2, 3}},
		{[]int64{8, 8}, []int64{0, 1, 1, 0}, nil}, {[]int64{8, 8}, []int64{0, 1, -1}, nil}, {[]int64{8, 8}, nil, nil}, {[]int64{8, 9}, []int64{0, 1, -1, 0}, nil}, {nil, nil, nil},
		{[]int64{1, 1, 2, 2}, []int64{0, -1, -1, -1, 1, 0, 1, -1, 1, -1, 0, -1, 1, 1, 1, 0}, nil},
	} {
		if got, ok := impl.KindsOfOrder(v.cone, v.order); !slices.Equal(got, v.want) || ok != (v.want != nil) {
			t.Errorf("KindsOfOrder(%v, %v) is %v, %v, not %v", v.cone, v.order, got, ok, v.want)
		}
	}
}

// apartOrder returns a good order of the cone 4, 1, 1, 4, 1, 1, whose sectors 1 and 4 do not overlap, but
// with a number for them.
func apartOrder(above int64) []int64 {
	order := layOrders([]int64{4, 1, 1, 4, 1, 1}, 1, math.MaxInt)[0]
	order[1*6+4], order[4*6+1] = above, -above
	return order
}

// TestCreasesAtTheSamePlace has creases at the same place whose sectors are on the same side, and on
// different sides.
func TestCreasesAtTheSamePlace(t *testing.T) {
	for _, v := range []struct {
		cone      []int64
		same      bool // there are such creases on the same side
		different bool // and on different sides
		count     int
	}{
		{ones(4), true, false, 8}, {[]int64{1, 2, 1, 1, 2, 1}, true, true, 18}, {[]int64{1, 3, 2, 1, 3, 2}, false, true, 8}, {[]int64{2, 4, 6, 4}, false, false, 4},
	} {
		f := folderOf(v.cone)
		same, different := false, false
		for i, place := range f.places {
			for k := range i {
				same = same || f.places[k] == place && (i-k)%2 == 0
				different = different || f.places[k] == place && (i-k)%2 == 1
			}
		}
		if same != v.same || different != v.different {
			t.Errorf("the places of %v are %v", v.cone, f.places)
		}
		orders, code := impl.SectorOrders(v.cone, slices.Repeat([]int64{impl.KdOpen}, len(v.cone)))
		if all := layOrders(v.cone, math.MaxInt, math.MaxInt); code != impl.OK || len(orders) != v.count || len(all) != v.count {
			t.Errorf("%v has %d orders, %d, not %d or %d", v.cone, len(orders), code, v.count, len(all))
		}
	}
}

func TestInvalidConesAreRejected(t *testing.T) {
	for _, list := range invalidConeLists() {
		for _, kinds := range [][]int64{nil, {2, 2}, slices.Repeat([]int64{impl.KdMountain}, len(list)), slices.Repeat([]int64{impl.KdOpen}, len(list))} {
			checkConeRejected(t, list, kinds)
		}
		shown := list[:min(len(list), 20)]
		places, ok := impl.SectorPlaces(list)
		count, countCode := impl.CountAssignments(list)
		all, code := impl.AssignmentsOf(list)
		if len(places) != 0 || ok || count != 0 || len(all) != 0 || code != impl.ErrInvalid || countCode != impl.ErrInvalid {
			t.Errorf("%v has the places %v, %v, and %d kinds, %d, which are %v, %d", shown, places, ok, count, countCode, all, code)
		}
		n := min(len(list), 400)
		if kinds, ok := impl.KindsOfOrder(list, make([]int64, n*n)); len(kinds) != 0 || ok {
			t.Errorf("an order of %v has the kinds %v", shown, kinds)
		}
	}
}

// checkConeRejected checks the functions with kinds for an invalid cone or for kinds that are not its kinds.
func checkConeRejected(t *testing.T, list, kinds []int64) {
	t.Helper()
	sectors, left, code := impl.CrimpSectors(list, kinds)
	orders, ordersCode := impl.SectorOrders(list, kinds)
	n := min(len(list), 400)
	if len(sectors) != 0 || len(left) != 0 || code != impl.ErrInvalid || len(orders) != 0 || ordersCode != impl.ErrInvalid || impl.FoldsAround(list, kinds) || impl.GoodSectorOrder(list, kinds, make([]int64, n*n)) {
		t.Errorf("%v with %v is not rejected: %v, %v, %d, %v, %d", list[:min(len(list), 20)], kinds[:min(len(kinds), 20)], sectors, left, code, orders, ordersCode)
	}
}

func TestKindsThatAreNoneAreRejected(t *testing.T) {
	state := uint64(107)
	for _, cone := range [][]int64{{8, 8}, {4, 4, 4, 4}, {2, 4, 6, 4}, {2, 2, 6, 6}, ones(8), ones(10), ones(16), {1, 1, 1, 1, 1, 1, 1, 1, 2, 2}} {
		kinds := foldableKinds(&state, cone)
		for _, wrong := range [][]int64{nil, {}, kinds[1:], append(slices.Clone(kinds), impl.KdValley), slices.Repeat(kinds, 1000), slices.Repeat([]int64{impl.KdBorder}, len(cone))} {
			checkConeRejected(t, cone, wrong)
		}
		for _, value := range append(extremes(), impl.KdBorder, 5, 6, 1<<32+2, 1<<32+3) {
			if value == impl.KdMountain || value == impl.KdValley {
				continue
			}
			for _, i := range []int{0, len(kinds) / 2, len(kinds) - 1} {
				wrong := slices.Clone(kinds)
				wrong[i] = value
				checkConeRejected(t, cone, wrong)
			}
		}
	}
}

// TestOpenKinds has open creases where they are allowed, and where not.
func TestOpenKinds(t *testing.T) {
	for _, cone := range [][]int64{{8, 8}, {4, 4, 4, 4}, {2, 4, 6, 4}, ones(8)} {
		for open := range cone {
			kinds := slices.Repeat([]int64{impl.KdMountain}, len(cone))
			kinds[open] = impl.KdOpen
			sectors, left, code := impl.CrimpSectors(cone, kinds)
			if len(sectors)+len(left) != 0 || code != impl.ErrInvalid || impl.FoldsAround(cone, kinds) {
				t.Errorf("%v with %v is crimped to %v with %v, %d", cone, kinds, sectors, left, code)
			}
			if _, code := impl.SectorOrders(cone, kinds); code != impl.OK {
				t.Errorf("SectorOrders(%v, %v) has the code %d", cone, kinds, code)
			}
		}
		all := slices.Repeat([]int64{impl.KdOpen}, len(cone))
		for _, order := range layOrders(cone, 40, math.MaxInt) {
			if !impl.GoodSectorOrder(cone, all, order) {
				t.Errorf("the order %v of %v is not good", order, cone)
			}
		}
	}
}

// TestCodesOfConesAreInOrder has arguments for which two codes would be right.
func TestCodesOfConesAreInOrder(t *testing.T) {
	twelve := []int64{1, 1, 1, 1, 1, 1, 1, 1, 1, 1, 1, 2}
	if all, code := impl.AssignmentsOf(twelve); code != impl.ErrInvalid || len(all) != 0 {
		t.Errorf("AssignmentsOf(%v) is %v, %d", twelve, all, code)
	}
	if all, code := impl.SectorOrders(ones(10), slices.Repeat([]int64{impl.KdBorder}, 10)); code != impl.ErrInvalid || len(all) != 0 {
		t.Errorf("SectorOrders of ten sectors with wrong kinds is %v, %d", all, code)
	}
	if _, _, code := impl.CrimpSectors([]int64{4, 4}, []int64{impl.KdOpen, impl.KdValley}); code != impl.ErrInvalid {
		t.Errorf("equal sectors with an open kind are crimped with the code %d", code)
	}
	if _, _, code := impl.CrimpSectors([]int64{4, 4}, []int64{impl.KdMountain, impl.KdValley}); code != impl.ErrState {
		t.Errorf("equal sectors that cannot be folded are crimped with the code %d", code)
	}
}
