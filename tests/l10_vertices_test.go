package tests

import (
	"fmt"
	"math"
	"slices"
	"strings"
	"testing"

	"loop.example/g00857/impl"
)

// kindsOf reads kinds as letters, such as `MVO`.
func kindsOf(letters string) []int64 {
	kinds := []int64{}
	for _, letter := range strings.Split(letters, "") {
		kinds = append(kinds, kindOfLetter(letter))
	}
	return kinds
}

func TestExampleOfSectorsAt(t *testing.T) {
	p, _ := impl.SquarePattern(1)
	p, _ = impl.AddCrease(p, impl.Point{}, mustPoint(t, "(1,1)"), impl.KdValley)
	if got, code := impl.SectorsAt(p, 0); code != impl.OK || !slices.Equal(got, []int64{2, 2}) {
		t.Errorf("the sectors at the corner of the example are %v, %d", got, code)
	}
}

func TestInteriorPoints(t *testing.T) {
	for _, v := range []struct {
		dirs, sectors []int64
		kinds         string
		conditions    string // those that are satisfied
	}{
		{[]int64{0, 4, 8, 12}, []int64{4, 4, 4, 4}, "MVVV", "KML"},
		{[]int64{0, 4, 8, 12}, []int64{4, 4, 4, 4}, "MMMV", "KML"},
		{[]int64{0, 4, 8, 12}, []int64{4, 4, 4, 4}, "MMVV", "KL"},
		{[]int64{0, 4, 8, 12}, []int64{4, 4, 4, 4}, "VVVV", "KL"},
		{[]int64{0, 8}, []int64{8, 8}, "MM", "KML"}, {[]int64{0, 8}, []int64{8, 8}, "VV", "KML"}, {[]int64{3, 11}, []int64{8, 8}, "MV", "KL"}, {[]int64{3, 11}, []int64{8, 8}, "OV", "K"}, {[]int64{3, 11}, []int64{8, 8}, "OO", "K"},
		// A little run with an odd Count: its creases are the first two.
		{[]int64{0, 2, 6, 12}, []int64{2, 4, 6, 4}, "MVVV", "KML"}, {[]int64{0, 2, 6, 12}, []int64{2, 4, 6, 4}, "VMMM", "KML"}, {[]int64{0, 2, 6, 12}, []int64{2, 4, 6, 4}, "VVVM", "KM"}, {[]int64{0, 2, 6, 12}, []int64{2, 4, 6, 4}, "MMVV", "K"},
		{[]int64{1, 3, 7, 13}, []int64{2, 4, 6, 4}, "MVVM", "KL"}, {[]int64{1, 3, 7, 13}, []int64{2, 4, 6, 4}, "MVVO", "K"}, {[]int64{1, 3, 7, 13}, []int64{2, 4, 6, 4}, "OVVV", "K"}, {[]int64{1, 3, 7, 13}, []int64{2, 4, 6, 4}, "MOVV", "K"},
		{[]int64{0, 1, 2, 3, 7, 15}, []int64{1, 1, 1, 4, 8, 1}, "MVMVMV", "L"}, {[]int64{0, 1, 2, 3, 7, 11}, []int64{1, 1, 1, 4, 4, 5}, "MVMVMM", "ML"}, {[]int64{0, 1, 2, 3, 7, 11}, []int64{1, 1, 1, 4, 4, 5}, "MVMMMM", ""}, {[]int64{0, 1, 2, 3, 7, 11}, []int64{1, 1, 1, 4, 4, 5}, "MVVVVV", ""},
		// A little run with an even Count: its creases are the first three.
		{[]int64{0, 2, 4, 10}, []int64{2, 2, 6, 6}, "MVVV", "KML"}, {[]int64{0, 2, 4, 10}, []int64{2, 2, 6, 6}, "MMVM", "KML"}, {[]int64{0, 2, 4, 10}, []int64{2, 2, 6, 6}, "VVVM", "KM"}, {[]int64{0, 2, 4, 10}, []int64{2, 2, 6, 6}, "MMMM", "K"}, {[]int64{0, 2, 4, 10}, []int64{2, 2, 6, 6}, "MVMV", "KL"},
		{[]int64{0, 2, 4, 10}, []int64{2, 2, 6, 6}, "MVOV", "K"}, {[]int64{0, 2, 4, 10}, []int64{2, 2, 6, 6}, "MVVO", "K"},
		{[]int64{0, 1, 2, 3, 4}, []int64{1, 1, 1, 1, 12}, "MVVMM", "L"}, {[]int64{0, 1, 2, 3, 4}, []int64{1, 1, 1, 1, 12}, "MVMMM", ""}, {[]int64{5, 6, 7, 8, 9}, []int64{1, 1, 1, 1, 12}, "VVVVV", ""},
		// Several little runs.
		{[]int64{0, 2, 8, 10}, []int64{2, 6, 2, 6}, "MVMV", "L"}, {[]int64{0, 2, 8, 10}, []int64{2, 6, 2, 6}, "MVMM", "M"}, {[]int64{0, 2, 8, 10}, []int64{2, 6, 2, 6}, "MMVM", "M"}, {[]int64{0, 2, 8, 10}, []int64{2, 6, 2, 6}, "MMVV", ""},
		{[]int64{0, 1, 5, 7, 10, 15}, []int64{1, 4, 2, 3, 5, 1}, "MVMVMM", "KML"}, {[]int64{0, 1, 5, 7, 10, 15}, []int64{1, 4, 2, 3, 5, 1}, "MVMMVM", "KM"}, {[]int64{0, 1, 5, 7, 10, 15}, []int64{1, 4, 2, 3, 5, 1}, "VVMVMV", "KM"}, {[]int64{0, 1, 5, 7, 10, 15}, []int64{1, 4, 2, 3, 5, 1}, "MVVMVV", "KML"},
		{[]int64{0, 2, 4, 10, 11}, []int64{2, 2, 6, 1, 5}, "MMVVM", "L"}, {[]int64{0, 2, 4, 10, 11}, []int64{2, 2, 6, 1, 5}, "MMVVV", ""}, {[]int64{0, 2, 4, 10, 11}, []int64{2, 2, 6, 1, 5}, "VVVVM", ""}, {[]int64{0, 2, 4, 10, 11}, []int64{2, 2, 6, 1, 5}, "MVOVM", ""},
		// A little run that goes around the end of the list.
		{[]int64{0, 2, 8, 14}, []int64{2, 6, 6, 2}, "MMVV", "KL"}, {[]int64{0, 2, 8, 14}, []int64{2, 6, 6, 2}, "MVVV", "KML"}, {[]int64{0, 2, 8, 14}, []int64{2, 6, 6, 2}, "MMVM", "KM"}, {[]int64{0, 2, 8, 14}, []int64{2, 6, 6, 2}, "VVMV", "KM"}, {[]int64{0, 2, 8, 14}, []int64{2, 6, 6, 2}, "VVVM", "KML"},
		{[]int64{4, 5, 6, 15}, []int64{1, 1, 9, 5}, "MVVV", "ML"}, {[]int64{0, 1, 15}, []int64{1, 14, 1}, "MVM", "L"}, {[]int64{0, 1, 15}, []int64{1, 14, 1}, "MMM", ""}, {[]int64{0, 7, 15}, []int64{7, 8, 1}, "MVV", "L"}, {[]int64{0, 7, 15}, []int64{7, 8, 1}, "VMV", ""},
		// The same sector is before the run and behind it.
		{[]int64{0, 4}, []int64{4, 12}, "MV", "L"}, {[]int64{0, 4}, []int64{4, 12}, "MM", "M"}, {[]int64{0, 12}, []int64{12, 4}, "VM", "L"}, {[]int64{0, 12}, []int64{12, 4}, "VV", "M"},
		// One crease, odd numbers of creases, and all 16.
		{[]int64{0}, []int64{16}, "M", "L"}, {[]int64{15}, []int64{16}, "V", "L"}, {[]int64{9}, []int64{16}, "O", ""}, {[]int64{0, 5, 10}, []int64{5, 5, 6}, "MMV", "L"}, {[]int64{0, 5, 10}, []int64{5, 5, 6}, "MMM", ""}, {[]int64{0, 4, 8}, []int64{4, 4, 8}, "VVM", "L"},
		{directionsOfMask(1<<16 - 1), slices.Repeat([]int64{1}, 16), "MVMVMVMVMVMVMVMM", "KML"}, {directionsOfMask(1<<16 - 1), slices.Repeat([]int64{1}, 16), "MVMVMVMVMVMVMVMV", "KL"}, {directionsOfMask(1<<16 - 1), slices.Repeat([]int64{1}, 16), "MVMVMVMVMVMVMVMO", "K"},
		{directionsOfMask(1<<15 - 1), append(slices.Repeat([]int64{1}, 14), 2), "MVMVMVMVMVMVMVM", "L"}, {directionsOfMask(1<<15 - 1), append(slices.Repeat([]int64{1}, 14), 2), "MVMVMVMVMVMVMMM", ""},
	} {
		kinds := kindsOf(v.kinds)
		c := starOf(middles[len(v.dirs)%3], v.dirs, kinds)
		report := checkPoint(t, c.Pattern, c.border, c.middle)
		sectors, _ := impl.SectorsAt(c.Pattern, c.middle)
		dirs, _ := impl.DirectionsAt(c.Pattern, c.middle)
		found, _ := impl.KindsAt(c.Pattern, c.middle)
		if !slices.Equal(sectors, v.sectors) || !slices.Equal(dirs, v.dirs) || !slices.Equal(found, kinds) {
			t.Errorf("a point with the directions %v and the kinds %s has %v, %v and the sectors %v", v.dirs, v.kinds, dirs, found, sectors)
		}
		has := func(letter string) bool { return strings.Contains(v.conditions, letter) }
		if want := (impl.PointReport{Point: c.middle, Degree: int64(len(v.dirs)), Inside: true, Kawasaki: has("K"), Maekawa: has("M"), Little: has("L")}); report != want {
			t.Errorf("a point with the sectors %v and the kinds %s has the report %v, not %v", sectors, v.kinds, report, want)
		}
		wrong, _ := impl.WrongPoints(c.Pattern)
		if v.conditions == "KML" && (len(wrong) != 0 || !impl.LocallyFlat(c.Pattern)) || v.conditions != "KML" && (!slices.Equal(wrong, []int64{c.middle}) || impl.LocallyFlat(c.Pattern)) {
			t.Errorf("a pattern with the point %v is wrong at %v", report, wrong)
		}
	}
}

func TestPointsOnTheBorder(t *testing.T) {
	for _, v := range []struct {
		first, angle  int64
		dirs, sectors []int64
		kinds         string
	}{
		// Along a side, without and with further creases.
		{0, 8, nil, []int64{8}, ""}, {4, 8, nil, []int64{8}, ""}, {8, 8, nil, []int64{8}, ""}, {12, 8, nil, []int64{8}, ""}, {3, 8, nil, []int64{8}, ""}, {9, 8, nil, []int64{8}, ""},
		{0, 8, []int64{4}, []int64{4, 4}, "M"}, {0, 8, []int64{3}, []int64{3, 5}, "O"}, {12, 8, []int64{0}, []int64{4, 4}, "V"}, {12, 8, []int64{15, 0, 3}, []int64{3, 1, 3, 1}, "MMV"}, {14, 8, []int64{15, 4}, []int64{1, 5, 2}, "VV"},
		{8, 8, []int64{9, 10, 11, 12, 13, 14, 15}, []int64{1, 1, 1, 1, 1, 1, 1, 1}, "MVOMVOM"}, {10, 8, []int64{11, 15, 0, 1}, []int64{1, 4, 1, 1, 1}, "MMMM"}, {4, 8, []int64{6, 10}, []int64{2, 4, 2}, "OV"},
		// At corners.
		{0, 4, nil, []int64{4}, ""}, {0, 4, []int64{2}, []int64{2, 2}, "V"}, {12, 4, []int64{15}, []int64{3, 1}, "V"}, {13, 4, []int64{15, 0}, []int64{2, 1, 1}, "MM"}, {15, 4, []int64{0, 1, 2}, []int64{1, 1, 1, 1}, "VOM"},
		{0, 1, nil, []int64{1}, ""}, {15, 1, nil, []int64{1}, ""}, {7, 1, nil, []int64{1}, ""}, {0, 2, []int64{1}, []int64{1, 1}, "M"}, {14, 2, []int64{15}, []int64{1, 1}, "O"}, {15, 2, []int64{0}, []int64{1, 1}, "V"},
		{0, 7, nil, []int64{7}, ""}, {12, 7, []int64{0}, []int64{4, 3}, "V"}, {10, 7, []int64{0}, []int64{6, 1}, "M"}, {9, 7, []int64{10, 15}, []int64{1, 5, 1}, "MM"}, {5, 6, []int64{8}, []int64{3, 3}, "V"},
	} {
		kinds := []int64{}
		if v.kinds != "" {
			kinds = kindsOf(v.kinds)
		}
		c := wedgeOf(middles[len(v.dirs)%3], v.first, v.angle, v.dirs, kinds)
		report := checkPoint(t, c.Pattern, c.border, c.middle)
		if sectors, code := impl.SectorsAt(c.Pattern, c.middle); code != impl.OK || !slices.Equal(sectors, v.sectors) {
			t.Errorf("a border point with the angle %d behind %d and the directions %v has the sectors %v, %d", v.angle, v.first, v.dirs, sectors, code)
		}
		if want := (impl.PointReport{Point: c.middle, Degree: int64(len(v.dirs)) + 2, Kawasaki: true, Maekawa: true, Little: true}); report != want || !impl.LocallyFlat(c.Pattern) {
			t.Errorf("a border point with the directions %v and the kinds %s has the report %v", v.dirs, v.kinds, report)
		}
	}
}

// TestEachPointOfTheBorder goes around a paper whose corners and sides have further creases or none.
func TestEachPointOfTheBorder(t *testing.T) {
	p := drawn(t, "B (0,0) (1,0) (2,0) (3,0) (4,0) (4,4) (3,4) (0,4) (0,2) (0,0); V (0,0) (4,4); M (1,0) (1,4); O (0,2) (2,0)")
	border, _ := patternOracle(p)
	for _, v := range []struct {
		at            string
		dirs, sectors []int64
	}{
		{"(0,0)", []int64{0, 2, 4}, []int64{2, 2}},
		{"(1,0)", []int64{0, 4, 8}, []int64{4, 4}},
		{"(2,0)", []int64{0, 6, 8}, []int64{6, 2}},
		{"(3,0)", []int64{0, 8}, []int64{8}},
		{"(4,0)", []int64{4, 8}, []int64{4}},
		{"(4,4)", []int64{8, 10, 12}, []int64{2, 2}},
		{"(3,4)", []int64{0, 8}, []int64{8}},
		{"(1,4)", []int64{0, 8, 12}, []int64{4, 4}},
		{"(0,4)", []int64{0, 12}, []int64{4}},
		{"(0,2)", []int64{4, 12, 14}, []int64{2, 6}},
	} {
		point := impl.PointOf(p, mustPoint(t, v.at))
		report := checkPoint(t, p, border, point)
		dirs, _ := impl.DirectionsAt(p, point)
		sectors, _ := impl.SectorsAt(p, point)
		if report.Inside || !slices.Equal(dirs, v.dirs) || !slices.Equal(sectors, v.sectors) {
			t.Errorf("at %s there are the directions %v and the sectors %v, not %v and %v", v.at, dirs, sectors, v.dirs, v.sectors)
		}
	}
	if wrong, code := impl.WrongPoints(p); code != impl.OK || len(wrong) != 1 {
		t.Errorf("the wrong points are %v, %d", wrong, code)
	}
}

func TestWrongPointsAreInAscendingOrder(t *testing.T) {
	p := gridPattern(3, 3)
	for i := range p.Creases {
		if p.Creases[i].Kind != impl.KdBorder {
			p.Creases[i].Kind = impl.KdMountain
		}
	}
	if got, code := impl.WrongPoints(p); code != impl.OK || !slices.Equal(got, []int64{5, 6, 9, 10}) || impl.LocallyFlat(p) {
		t.Errorf("the wrong points of a grid of mountains are %v, %d", got, code)
	}
	reports, code := impl.ReportPoints(p)
	if code != impl.OK || len(reports) != 16 || reports[5] != (impl.PointReport{Point: 5, Degree: 4, Inside: true, Kawasaki: true, Little: true}) || reports[4] != (impl.PointReport{Point: 4, Degree: 3, Kawasaki: true, Maekawa: true, Little: true}) {
		t.Errorf("the reports of a grid of mountains are %v, %d", reports, code)
	}
}

func TestPointsThatThereAreNot(t *testing.T) {
	twist, _ := impl.LibraryPattern("twist")
	square, _ := impl.SquarePattern(3)
	for _, p := range []impl.Pattern{twist, square, gridPattern(4, 4), sidePattern(40)} {
		count := int64(len(p.Points))
		for _, point := range append(wildDirections(), count, count+1, -count, 1<<32+2, math.MaxInt64-count) {
			if point >= 0 && point < count {
				if _, code := impl.ReportPoint(p, point); code != impl.OK {
					t.Errorf("the report of the point %d of %s has the code %d", point, patternText(p), code)
				}
				continue
			}
			checkVertexRejected(t, p, point, impl.ErrNotFound)
		}
	}
}

// checkVertexRejected checks the results of all functions of chapter 10 for one point.
func checkVertexRejected(t *testing.T, p impl.Pattern, point int64, want int64) {
	t.Helper()
	dirs, dirsCode := impl.DirectionsAt(p, point)
	kinds, kindsCode := impl.KindsAt(p, point)
	sectors, sectorsCode := impl.SectorsAt(p, point)
	report, code := impl.ReportPoint(p, point)
	if got := fmt.Sprint(dirs, kinds, sectors, report, dirsCode, kindsCode, sectorsCode, code); got != fmt.Sprint("[] [] [] ", impl.PointReport{}, want, want, want, want) {
		t.Errorf("the point %d of %s has %s", point, patternText(p), got)
	}
	if impl.KawasakiAt(p, point) || impl.MaekawaAt(p, point) || impl.LittleAt(p, point) {
		t.Errorf("the point %d of %s satisfies conditions", point, patternText(p))
	}
}

func TestPointsOfInvalidPatternsAreRejected(t *testing.T) {
	rejected := 0
	check := func(p impl.Pattern) {
		rejected++
		for _, point := range []int64{0, 2, -1, int64(len(p.Points)), math.MinInt64, math.MaxInt64} {
			checkVertexRejected(t, p, point, impl.ErrInvalid)
		}
		reports, code := impl.ReportPoints(p)
		wrong, wrongCode := impl.WrongPoints(p)
		if len(reports) != 0 || code != impl.ErrInvalid || len(wrong) != 0 || wrongCode != impl.ErrInvalid || impl.LocallyFlat(p) {
			t.Errorf("%s has the reports %v, %d and the wrong points %v, %d", patternText(p), reports, code, wrong, wrongCode)
		}
	}
	check(impl.Pattern{})
	check(impl.Pattern{Points: []impl.Point{}, Creases: []impl.Crease{}})
	for _, v := range wrongPatterns {
		check(written(t, v.points, v.creases))
	}
	for _, p := range wildPatterns() {
		if !impl.ValidPattern(p) {
			check(p)
		}
	}
	for i, p := range somePatterns(t)[:40] {
		for _, variant := range patternsLike(p, uint64(i))[:10] {
			if !impl.ValidPattern(variant) {
				check(variant)
			}
		}
	}
	if rejected < 1000 {
		t.Errorf("only %d patterns are rejected", rejected)
	}
}
