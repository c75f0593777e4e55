package tests

import (
	"math"
	"slices"
	"strings"
	"sync"

	"loop.example/g00857/impl"
)

// allSectorLists returns every sector list: bit i of a number from 0 to 2^15 - 1 tells whether a
// crease lies i + 1 units behind the first one.
var allSectorLists = sync.OnceValue(func() [][]int64 {
	var all [][]int64
	for mask := range 1 << 15 {
		var list []int64
		size := int64(1)
		for i := range 15 {
			if mask>>i&1 == 1 {
				list = append(list, size)
				size = 0
			}
			size++
		}
		all = append(all, append(list, size))
	}
	return all
})

// sectorLetters writes a sector list as a text with a letter for each sector, which has the same order.
func sectorLetters(list []int64) string {
	var s strings.Builder
	for _, sector := range list {
		s.WriteByte(byte('a' + sector))
	}
	return s.String()
}

func sectorsOfLetters(s string) []int64 {
	var list []int64
	for _, c := range []byte(s) {
		list = append(list, int64(c-'a'))
	}
	return list
}

func reversedLetters(s string) string {
	letters := []byte(s)
	slices.Reverse(letters)
	return string(letters)
}

// canonicalOracle finds the least part of the length of s in s written twice, and in its reverse.
func canonicalOracle(list []int64) []int64 {
	s := sectorLetters(list)
	least := s
	for _, round := range []string{s + s, reversedLetters(s + s)} {
		for k := range s {
			least = min(least, round[k:k+len(s)])
		}
	}
	return sectorsOfLetters(least)
}

func symmetriesOracle(list []int64) (rotations, mirrors int64) {
	s := sectorLetters(list)
	reverse := reversedLetters(s)
	for k := range s {
		if strings.HasPrefix((s + s)[k:], s) {
			rotations++
		}
		if strings.HasPrefix((reverse + reverse)[k:], s) {
			mirrors++
		}
	}
	return rotations, mirrors
}

// alternatingOracle returns the sum of the sectors with an even index less the sum of the others.
func alternatingOracle(list []int64) (int64, bool) {
	sums := [2]int64{}
	for i, sector := range list {
		sums[i%2] += sector
	}
	if len(list)%2 == 1 {
		return 0, false
	}
	return sums[0] - sums[1], true
}

// littleRunsOracle tries every first element with every number of sectors.
func littleRunsOracle(list []int64) []impl.SectorRun {
	var runs []impl.SectorRun
	n := len(list)
	for from := range n {
		for count := 1; count <= n; count++ {
			size, equal := list[from], true
			for i := from; i < from+count; i++ {
				equal = equal && list[i%n] == size
			}
			if equal && list[(from+n-1)%n] > size && list[(from+count)%n] > size {
				runs = append(runs, impl.SectorRun{From: int64(from), Count: int64(count), Size: size})
			}
		}
	}
	return runs
}

// invalidSectorLists are lists with sums below and above FullTurn, with a sector below 1, and such
// whose sum is 16 only because it overflows.
func invalidSectorLists() [][]int64 {
	list := [][]int64{
		nil, {}, {0}, {15}, {17}, {-16}, {0, 16}, {16, 0}, {8, 0, 8}, {-1, 17}, {17, -1}, {8, -8, 16}, {8, 9}, {8, 7}, {4, 4, 4, 3}, {4, 4, 4, 5}, {1, 1}, {16, 16}, {16, 1}, {2, 2, 2, 2},
		{math.MaxInt64}, {math.MinInt64}, {math.MaxInt64, math.MaxInt64, 18}, {math.MinInt64, math.MinInt64, 16}, {16, math.MinInt64, math.MinInt64}, {1 << 62, 1 << 62, 1 << 62, 1 << 62, 16},
		{math.MinInt64, math.MaxInt64, 17}, {math.MaxInt64, math.MinInt64, 17}, {8, math.MaxInt64, 9, math.MinInt64}, {1<<32 + 16}, {8, 1<<32 + 8}, {16 - 1<<32, 1 << 32},
	}
	for _, value := range append(extremes(), 16) {
		for _, count := range []int{15, 17, 32, 1000, 100000} {
			list = append(list, slices.Repeat([]int64{value}, count))
		}
		list = append(list, []int64{4, 4, value, 4, 4}, []int64{value, 16}, append(slices.Repeat([]int64{1}, 16), value), append(make([]int64, 50000), value))
	}
	return list
}
