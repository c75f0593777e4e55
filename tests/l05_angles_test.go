package tests

import (
	"math"
	"slices"
	"testing"

	"loop.example/g00857/impl"
)

func TestFullTurn(t *testing.T) {
	if impl.FullTurn != 16 {
		t.Error(impl.FullTurn)
	}
}

func TestValidSectors(t *testing.T) {
	for _, list := range allSectorLists() {
		if !impl.ValidSectors(list) {
			t.Errorf("ValidSectors(%v) is false", list)
		}
	}
	for _, list := range invalidSectorLists() {
		if impl.ValidSectors(list) {
			t.Errorf("ValidSectors(%v) is true", list[:min(len(list), 20)])
		}
	}
	for _, list := range allSectorLists() {
		i := len(list) * 5 / 7
		for _, change := range []int64{-1, 1, -list[i], 16, math.MinInt64} {
			changed := slices.Clone(list)
			changed[i] += change
			if impl.ValidSectors(changed) {
				t.Errorf("ValidSectors(%v) is true", changed)
			}
		}
	}
}

func TestSectorsOf(t *testing.T) {
	for _, v := range []struct{ dirs, want []int64 }{
		{[]int64{0, 4, 6}, []int64{4, 2, 10}}, {[]int64{0}, []int64{16}}, {[]int64{15}, []int64{16}}, {[]int64{7}, []int64{16}}, {[]int64{0, 15}, []int64{15, 1}}, {[]int64{7, 8}, []int64{1, 15}},
		{[]int64{0, 4, 8, 12}, []int64{4, 4, 4, 4}}, {[]int64{1, 5, 9, 13}, []int64{4, 4, 4, 4}}, {[]int64{3, 4, 5, 15}, []int64{1, 1, 10, 4}},
		{[]int64{0, 1, 2, 3, 4, 5, 6, 7, 8, 9, 10, 11, 12, 13, 14, 15}, slices.Repeat([]int64{1}, 16)},
		{nil, nil}, {[]int64{}, nil}, {[]int64{3, 3}, nil}, {[]int64{4, 3}, nil}, {[]int64{0, 4, 4}, nil}, {[]int64{0, 6, 4}, nil}, {[]int64{0, 16}, nil}, {[]int64{16}, nil}, {[]int64{-1}, nil}, {[]int64{-1, 4}, nil},
		{[]int64{0, 0}, nil}, {[]int64{5, 0, 6}, nil}, {[]int64{5, -3, 6}, nil}, {[]int64{math.MaxInt64}, nil}, {[]int64{math.MinInt64}, nil}, {[]int64{math.MaxInt64, 3}, nil}, {[]int64{math.MinInt64, 3}, nil},
		{[]int64{3, math.MaxInt64}, nil}, {[]int64{3, math.MinInt64}, nil}, {[]int64{math.MinInt64, math.MaxInt64}, nil}, {[]int64{0, math.MaxInt64, 15}, nil}, {[]int64{0, math.MinInt64, 15}, nil},
		{make([]int64, 17), nil}, {make([]int64, 100000), nil}, {slices.Repeat([]int64{0, 8}, 8), nil},
	} {
		if got, ok := impl.SectorsOf(v.dirs); !slices.Equal(got, v.want) || ok != (v.want != nil) {
			t.Errorf("SectorsOf(%v) is %v, %v, not %v", v.dirs[:min(len(v.dirs), 20)], got, ok, v.want)
		}
	}
}

func TestDirectionsOf(t *testing.T) {
	ones := slices.Repeat([]int64{1}, 16)
	for _, v := range []struct {
		first      int64
		list, want []int64
	}{
		{0, []int64{4, 2, 10}, []int64{0, 4, 6}}, {7, []int64{4, 2, 10}, []int64{7, 11, 13}}, {9, []int64{4, 2, 10}, []int64{9, 13, 15}}, {10, []int64{4, 2, 10}, nil}, {15, []int64{4, 2, 10}, nil},
		{0, []int64{16}, []int64{0}}, {15, []int64{16}, []int64{15}}, {16, []int64{16}, nil}, {-1, []int64{16}, nil}, {math.MaxInt64, []int64{16}, nil}, {math.MinInt64, []int64{16}, nil},
		{0, ones, []int64{0, 1, 2, 3, 4, 5, 6, 7, 8, 9, 10, 11, 12, 13, 14, 15}}, {1, ones, nil}, {14, []int64{1, 15}, []int64{14, 15}}, {15, []int64{1, 15}, nil}, {1, []int64{15, 1}, nil}, {0, []int64{15, 1}, []int64{0, 15}},
		{3, []int64{4, 4, 4, 4}, []int64{3, 7, 11, 15}}, {4, []int64{4, 4, 4, 4}, nil},
	} {
		if got, ok := impl.DirectionsOf(v.first, v.list); !slices.Equal(got, v.want) || ok != (v.want != nil) {
			t.Errorf("DirectionsOf(%d, %v) is %v, %v, not %v", v.first, v.list, got, ok, v.want)
		}
	}
	for _, first := range wildDirections() {
		got, ok := impl.DirectionsOf(first, []int64{16})
		if inside := first >= 0 && first < 16; ok != inside || !inside && len(got) != 0 {
			t.Errorf("DirectionsOf(%d, [16]) is %v, %v", first, got, ok)
		}
	}
}

func TestAlternatingSum(t *testing.T) {
	for _, v := range []struct {
		list []int64
		want int64
		ok   bool
	}{
		{[]int64{4, 2, 4, 6}, 0, true}, {[]int64{4, 12}, -8, true}, {[]int64{12, 4}, 8, true}, {[]int64{8, 8}, 0, true}, {[]int64{16}, 0, false}, {[]int64{4, 8, 4}, 0, false}, {[]int64{1, 7, 7, 1}, 0, true},
		{[]int64{1, 15}, -14, true}, {[]int64{15, 1}, 14, true}, {slices.Repeat([]int64{1}, 16), 0, true}, {append(slices.Repeat([]int64{1}, 14), 2), 0, false}, {[]int64{6, 1, 8, 1}, 12, true},
		{[]int64{8, 9}, 0, false}, {[]int64{8, 8, 8, 8}, 0, false}, {nil, 0, false}, {[]int64{}, 0, false}, {[]int64{0, 0}, 0, false}, {[]int64{8, 0, 0, 8}, 0, false},
	} {
		got, ok := impl.AlternatingSum(v.list)
		if got != v.want || ok != v.ok {
			t.Errorf("AlternatingSum(%v) is %d, %v", v.list, got, ok)
		}
		if impl.IsKawasaki(v.list) != (v.ok && v.want == 0) {
			t.Errorf("IsKawasaki(%v) is %v", v.list, impl.IsKawasaki(v.list))
		}
	}
}

func TestRotationsAndMirrorImages(t *testing.T) {
	for _, v := range []struct {
		list           []int64
		k              int64
		rotated, least []int64
		turns, mirrors int64
	}{
		{[]int64{6, 4, 2, 4}, 2, []int64{2, 4, 6, 4}, []int64{2, 4, 6, 4}, 1, 1},
		{[]int64{6, 4, 2, 4}, 0, []int64{6, 4, 2, 4}, []int64{2, 4, 6, 4}, 1, 1},
		{[]int64{6, 4, 2, 4}, 3, []int64{4, 6, 4, 2}, []int64{2, 4, 6, 4}, 1, 1},
		{[]int64{6, 4, 2, 4}, 4, nil, []int64{2, 4, 6, 4}, 1, 1},
		{[]int64{6, 4, 2, 4}, -1, nil, []int64{2, 4, 6, 4}, 1, 1},
		{[]int64{16}, 0, []int64{16}, []int64{16}, 1, 1},
		{[]int64{16}, 1, nil, []int64{16}, 1, 1},
		{[]int64{8, 8}, 1, []int64{8, 8}, []int64{8, 8}, 2, 2},
		{[]int64{12, 4}, 1, []int64{4, 12}, []int64{4, 12}, 1, 1},
		{[]int64{4, 4, 4, 4}, 3, []int64{4, 4, 4, 4}, []int64{4, 4, 4, 4}, 4, 4},
		{[]int64{6, 2, 6, 2}, 1, []int64{2, 6, 2, 6}, []int64{2, 6, 2, 6}, 2, 2},
		{[]int64{3, 8, 5}, 1, []int64{8, 5, 3}, []int64{3, 5, 8}, 1, 0},
		{[]int64{1, 3, 4, 1, 3, 4}, 4, []int64{3, 4, 1, 3, 4, 1}, []int64{1, 3, 4, 1, 3, 4}, 2, 0},
		{[]int64{5, 1, 5, 5}, 1, []int64{1, 5, 5, 5}, []int64{1, 5, 5, 5}, 1, 1},
		{[]int64{7, 1, 2, 6}, 2, []int64{2, 6, 7, 1}, []int64{1, 2, 6, 7}, 1, 0},
		{[]int64{6, 2, 1, 7}, 1, []int64{2, 1, 7, 6}, []int64{1, 2, 6, 7}, 1, 0},
		{slices.Repeat([]int64{1}, 16), 15, slices.Repeat([]int64{1}, 16), slices.Repeat([]int64{1}, 16), 16, 16},
	} {
		if got := impl.RotateSectors(v.list, v.k); !slices.Equal(got, v.rotated) {
			t.Errorf("RotateSectors(%v, %d) is %v", v.list, v.k, got)
		}
		if got := impl.CanonicalSectors(v.list); !slices.Equal(got, v.least) {
			t.Errorf("CanonicalSectors(%v) is %v", v.list, got)
		}
		if turns, mirrors := impl.SectorSymmetries(v.list); turns != v.turns || mirrors != v.mirrors {
			t.Errorf("SectorSymmetries(%v) is %d, %d", v.list, turns, mirrors)
		}
	}
	for _, v := range []struct{ list, want []int64 }{
		{[]int64{6, 4, 2, 4}, []int64{4, 2, 4, 6}}, {[]int64{16}, []int64{16}}, {[]int64{12, 4}, []int64{4, 12}}, {[]int64{3, 8, 5}, []int64{5, 8, 3}},
	} {
		if got := impl.MirrorSectors(v.list); !slices.Equal(got, v.want) {
			t.Errorf("MirrorSectors(%v) is %v", v.list, got)
		}
	}
	for _, k := range wildDirections() {
		if got := impl.RotateSectors([]int64{3, 8, 5}, k); (k < 0 || k > 2) && len(got) != 0 {
			t.Errorf("RotateSectors with the element %d of three is %v", k, got)
		}
	}
}

func TestKawasakiSequences(t *testing.T) {
	for n, want := range map[int64][][]int64{
		2:  {{8, 8}},
		4:  {{1, 1, 7, 7}, {1, 2, 7, 6}, {1, 3, 7, 5}, {1, 4, 7, 4}, {2, 2, 6, 6}, {2, 3, 6, 5}, {2, 4, 6, 4}, {3, 3, 5, 5}, {3, 4, 5, 4}, {4, 4, 4, 4}},
		16: {slices.Repeat([]int64{1}, 16)},
	} {
		if got, code := impl.KawasakiSequences(n); code != impl.OK || !slices.EqualFunc(got, want, slices.Equal[[]int64]) {
			t.Errorf("KawasakiSequences(%d) is %v, %d", n, got, code)
		}
	}
	for _, n := range append(wildDirections(), 18, 32, 1000, math.MinInt64+2, math.MaxInt64-1) {
		got, code := impl.KawasakiSequences(n)
		if allowed := n >= 2 && n <= 16 && n%2 == 0; allowed && (code != impl.OK || len(got) == 0) || !allowed && (code != impl.ErrRange || len(got) != 0) {
			t.Errorf("KawasakiSequences(%d) is %v, %d", n, got, code)
		}
	}
}

func TestLittleRuns(t *testing.T) {
	for _, v := range []struct {
		list []int64
		want [][3]int64 // From, Count and Size
	}{
		{[]int64{2, 2, 6, 1, 5}, [][3]int64{{0, 2, 2}, {3, 1, 1}}},
		{[]int64{8, 8}, nil}, {[]int64{16}, nil}, {slices.Repeat([]int64{1}, 16), nil}, {[]int64{4, 4, 4, 4}, nil},
		{[]int64{4, 12}, [][3]int64{{0, 1, 4}}}, {[]int64{12, 4}, [][3]int64{{1, 1, 4}}},
		{[]int64{2, 6, 6, 2}, [][3]int64{{3, 2, 2}}}, {[]int64{1, 1, 12, 1, 1}, [][3]int64{{3, 4, 1}}}, {[]int64{3, 7, 3, 3}, [][3]int64{{2, 3, 3}}},
		{[]int64{2, 4, 6, 4}, [][3]int64{{0, 1, 2}}}, {[]int64{2, 6, 2, 6}, [][3]int64{{0, 1, 2}, {2, 1, 2}}}, {[]int64{6, 2, 6, 2}, [][3]int64{{1, 1, 2}, {3, 1, 2}}},
		{[]int64{1, 2, 3, 4, 6}, [][3]int64{{0, 1, 1}}}, {[]int64{3, 2, 1, 4, 6}, [][3]int64{{2, 1, 1}}}, {[]int64{2, 2, 3, 3, 6}, [][3]int64{{0, 2, 2}}}, {[]int64{3, 3, 2, 2, 6}, [][3]int64{{2, 2, 2}}},
		{append(slices.Repeat([]int64{1}, 14), 2), [][3]int64{{0, 14, 1}}}, {append([]int64{1, 2}, slices.Repeat([]int64{1}, 13)...), [][3]int64{{2, 14, 1}}},
		{[]int64{1, 3, 1, 3, 1, 3, 1, 3}, [][3]int64{{0, 1, 1}, {2, 1, 1}, {4, 1, 1}, {6, 1, 1}}},
	} {
		var got [][3]int64
		for _, run := range impl.LittleRuns(v.list) {
			got = append(got, [3]int64{run.From, run.Count, run.Size})
		}
		if !slices.Equal(got, v.want) {
			t.Errorf("LittleRuns(%v) is %v, not %v", v.list, got, v.want)
		}
	}
}

func TestInvalidSectorListsAreRejected(t *testing.T) {
	for _, list := range invalidSectorLists() {
		shown := list[:min(len(list), 20)]
		directions, ok := impl.DirectionsOf(0, list)
		sum, sumOk := impl.AlternatingSum(list)
		turns, mirrors := impl.SectorSymmetries(list)
		if len(directions) != 0 || ok || sum != 0 || sumOk || impl.IsKawasaki(list) || turns != 0 || mirrors != 0 {
			t.Errorf("%v has the directions %v, %v, the alternating sum %d, %v and the symmetries %d, %d", shown, directions, ok, sum, sumOk, turns, mirrors)
		}
		if got := slices.Concat(impl.RotateSectors(list, 0), impl.MirrorSectors(list), impl.CanonicalSectors(list)); len(got) != 0 || len(impl.LittleRuns(list)) != 0 {
			t.Errorf("%v has the forms %v and the little runs %v", shown, got, impl.LittleRuns(list))
		}
	}
}
