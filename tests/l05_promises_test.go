package tests

import (
	"fmt"
	"math"
	"slices"
	"testing"

	"loop.example/g00857/impl"
)

// Promise 1 for chapter 5: every function returns, repeats its result, changes no argument, and keeps
// no memory of one.

const (
	spareSector  = 77
	markedSector = -99
)

// sectorCalls call the functions of chapter 5 with a list, and return the returned list, if there is
// one, and a description of all results.
func sectorCalls(k int64) map[string]func(list []int64) ([]int64, string) {
	return map[string]func(list []int64) ([]int64, string){
		"SectorsOf": func(list []int64) ([]int64, string) {
			sectors, ok := impl.SectorsOf(list)
			return sectors, fmt.Sprint(sectors, ok)
		},
		"DirectionsOf": func(list []int64) ([]int64, string) {
			directions, ok := impl.DirectionsOf(k, list)
			return directions, fmt.Sprint(directions, ok)
		},
		"RotateSectors": func(list []int64) ([]int64, string) {
			rotated := impl.RotateSectors(list, k)
			return rotated, fmt.Sprint(rotated)
		},
		"MirrorSectors": func(list []int64) ([]int64, string) {
			mirror := impl.MirrorSectors(list)
			return mirror, fmt.Sprint(mirror)
		},
		"CanonicalSectors": func(list []int64) ([]int64, string) {
			canonical := impl.CanonicalSectors(list)
			return canonical, fmt.Sprint(canonical)
		},
		"the others": func(list []int64) ([]int64, string) {
			sum, ok := impl.AlternatingSum(list)
			turns, mirrors := impl.SectorSymmetries(list)
			return nil, fmt.Sprint(impl.ValidSectors(list), sum, ok, impl.IsKawasaki(list), turns, mirrors, impl.LittleRuns(list))
		},
	}
}

func checkSectorsPure(t *testing.T, list []int64, k int64) {
	t.Helper()
	for name, call := range sectorCalls(k) {
		argument, kept := guard(list, spareSector)
		first, want := call(argument)
		second, again := call(argument)
		saved := slices.Clone(second)
		overwrite(first, markedSector)
		if !kept() || !slices.Equal(second, saved) {
			t.Errorf("%s changes %v, or a result shares its memory or that of another one", name, list)
		}
		if want != again {
			t.Errorf("%s: the results for %v and %d are %s and %s", name, list, k, want, again)
		}
	}
}

func TestPromise1SectorListsAreNotChangedOrShared(t *testing.T) {
	for i, list := range allSectorLists() {
		if i%37 == 0 || len(list) == 1 || len(list) == 16 {
			checkSectorsPure(t, list, 0)
			checkSectorsPure(t, list, int64(len(list))-1)
		}
		if directions, ok := impl.DirectionsOf(0, list); ok && i%37 == 0 {
			checkSectorsPure(t, directions, 3)
		}
	}
	for i, list := range invalidSectorLists() {
		for _, k := range []int64{0, wildDirections()[i%len(wildDirections())], math.MinInt64, math.MaxInt64} {
			checkSectorsPure(t, list[:min(len(list), 100)], k)
		}
	}
}

func TestPromise1SectorListsReturnForAllArguments(t *testing.T) {
	values := slices.Concat(extremes(), slices.Repeat([]int64{1, 2, 3, 4, 5, 6, 8}, 30))
	state := uint64(17)
	for range 20000 {
		list := make([]int64, nextRandom(&state, 18))
		for i := range list {
			list[i] = values[nextRandom(&state, uint64(len(values)))]
		}
		for name, call := range sectorCalls(values[nextRandom(&state, uint64(len(values)))]) {
			_, first := call(list)
			if _, second := call(list); first != second {
				t.Errorf("%s: the results for %v are %s and %s", name, list, first, second)
			}
		}
	}
}

func TestPromise1LittleRunsAreNotShared(t *testing.T) {
	argument, kept := guard([]int64{2, 2, 6, 1, 5}, spareSector)
	first, second := impl.LittleRuns(argument), impl.LittleRuns(argument)
	saved := slices.Clone(second)
	overwrite(first, impl.SectorRun{From: -1})
	if !kept() || !slices.Equal(second, saved) {
		t.Errorf("two results of LittleRuns share memory: %v", second)
	}
}

func TestPromise1KawasakiSequencesAreNotShared(t *testing.T) {
	for n := int64(2); n <= 16; n += 2 {
		lists, _ := impl.KawasakiSequences(n)
		again, _ := impl.KawasakiSequences(n)
		if !slices.EqualFunc(lists, again, slices.Equal[[]int64]) {
			t.Errorf("two results of KawasakiSequences(%d) differ", n)
		}
		for i, list := range lists {
			if !slices.Equal(list, again[i]) {
				t.Errorf("list %d of KawasakiSequences(%d) shares memory with another one", i, n)
			}
			overwrite(list, markedSector)
		}
		once, _ := impl.KawasakiSequences(n)
		if !slices.EqualFunc(once, again, slices.Equal[[]int64]) {
			t.Errorf("two results of KawasakiSequences(%d) share memory", n)
		}
		overwrite(lists, []int64{markedSector})
		if !slices.EqualFunc(once, again, slices.Equal[[]int64]) {
			t.Errorf("two results of KawasakiSequences(%d) share memory", n)
		}
	}
}

// Promise 6: sectors are recovered from directions; rotations and mirror images of a sector list have
// one canonical form, and all canonical lists are found.

func TestPromise6SectorsAreRecoveredFromDirections(t *testing.T) {
	for _, list := range allSectorLists() {
		for first := range int64(impl.FullTurn) {
			got, ok := impl.DirectionsOf(first, list)
			if want := first+16-list[len(list)-1] < 16; ok != want || !ok && len(got) != 0 {
				t.Errorf("DirectionsOf(%d, %v) is %v, %v", first, list, got, ok)
			}
			if !ok {
				continue
			}
			if got[0] != first || len(got) != len(list) {
				t.Errorf("DirectionsOf(%d, %v) is %v", first, list, got)
			}
			if back, backOk := impl.SectorsOf(got); !backOk || !slices.Equal(back, list) {
				t.Errorf("the directions %v of %v have the sectors %v, %v", got, list, back, backOk)
			}
		}
	}
}

func TestPromise6DirectionsAreRecoveredFromSectors(t *testing.T) {
	for mask := 1; mask < 1<<16; mask++ {
		var dirs, want []int64
		for d := range int64(16) {
			if mask>>d&1 == 0 {
				continue
			}
			dirs = append(dirs, d)
			sector := int64(1)
			for mask>>((d+sector)%16)&1 == 0 {
				sector++
			}
			want = append(want, sector)
		}
		got, ok := impl.SectorsOf(dirs)
		if !ok || !slices.Equal(got, want) {
			t.Errorf("SectorsOf(%v) is %v, %v, not %v", dirs, got, ok, want)
		}
		if back, backOk := impl.DirectionsOf(dirs[0], got); !backOk || !slices.Equal(back, dirs) {
			t.Errorf("the sectors %v of %v have the directions %v, %v", got, dirs, back, backOk)
		}
		checkWrongDirections(t, dirs, mask)
	}
}

// checkWrongDirections changes one element of strictly increasing directions so that they are not.
func checkWrongDirections(t *testing.T, dirs []int64, seed int) {
	t.Helper()
	i := seed * 7 % len(dirs)
	for _, value := range []int64{-1, 16, dirs[(i+1)%len(dirs)], math.MinInt64, math.MaxInt64} {
		wrong := slices.Clone(dirs)
		wrong[i] = value
		if len(dirs) == 1 && value == dirs[0] {
			continue
		}
		if got, ok := impl.SectorsOf(wrong); ok || len(got) != 0 {
			t.Errorf("SectorsOf(%v) is %v, %v", wrong, got, ok)
		}
	}
}

func TestPromise6ImagesHaveOneCanonicalForm(t *testing.T) {
	for _, list := range allSectorLists() {
		want := canonicalOracle(list)
		if got := impl.CanonicalSectors(list); !slices.Equal(got, want) {
			t.Errorf("CanonicalSectors(%v) is %v, not %v", list, got, want)
		}
	}
	for i, list := range allSectorLists() {
		if i%7 != 0 {
			continue
		}
		want, mirror := impl.CanonicalSectors(list), impl.MirrorSectors(list)
		if back := impl.MirrorSectors(mirror); !slices.Equal(back, list) {
			t.Errorf("the mirror image %v of %v has the mirror image %v", mirror, list, back)
		}
		for k := range list {
			rotated := impl.RotateSectors(list, int64(k))
			if !slices.Equal(rotated, slices.Concat(list[k:], list[:k])) || !slices.Equal(impl.CanonicalSectors(rotated), want) {
				t.Errorf("%v rotated by %d is %v and has the canonical form %v", list, k, rotated, impl.CanonicalSectors(rotated))
			}
			if image := impl.RotateSectors(mirror, int64(k)); !slices.Equal(impl.CanonicalSectors(image), want) {
				t.Errorf("the image %v of %v has the canonical form %v", image, list, impl.CanonicalSectors(image))
			}
		}
	}
}

func TestPromise6SymmetriesAreCounted(t *testing.T) {
	for _, list := range allSectorLists() {
		wantTurns, wantMirrors := symmetriesOracle(list)
		if turns, mirrors := impl.SectorSymmetries(list); turns != wantTurns || mirrors != wantMirrors {
			t.Errorf("SectorSymmetries(%v) is %d, %d, not %d, %d", list, turns, mirrors, wantTurns, wantMirrors)
		}
	}
}

func TestPromise6AlternatingSumsAreExact(t *testing.T) {
	for _, list := range allSectorLists() {
		want, wantOk := alternatingOracle(list)
		got, ok := impl.AlternatingSum(list)
		if got != want || ok != wantOk || impl.IsKawasaki(list) != (wantOk && want == 0) {
			t.Errorf("AlternatingSum(%v) is %d, %v, and IsKawasaki is %v", list, got, ok, impl.IsKawasaki(list))
		}
	}
}

func TestPromise6AllCanonicalListsAreFound(t *testing.T) {
	wanted := map[int64]map[string]bool{}
	for _, list := range allSectorLists() {
		if sum, ok := alternatingOracle(list); ok && sum == 0 {
			n := int64(len(list))
			if wanted[n] == nil {
				wanted[n] = map[string]bool{}
			}
			wanted[n][sectorLetters(canonicalOracle(list))] = true
		}
	}
	for n := int64(2); n <= 16; n += 2 {
		lists, code := impl.KawasakiSequences(n)
		if code != impl.OK || len(lists) != len(wanted[n]) {
			t.Errorf("KawasakiSequences(%d) has %d lists, not %d, and %d", n, len(lists), len(wanted[n]), code)
		}
		for i, list := range lists {
			if !wanted[n][sectorLetters(list)] || int64(len(list)) != n {
				t.Errorf("KawasakiSequences(%d) contains %v", n, list)
			}
			if i > 0 && slices.Compare(lists[i-1], list) >= 0 {
				t.Errorf("KawasakiSequences(%d): %v is before %v", n, lists[i-1], list)
			}
		}
	}
}

func TestPromise6LittleRunsAreFound(t *testing.T) {
	for _, list := range allSectorLists() {
		if got, want := impl.LittleRuns(list), littleRunsOracle(list); !slices.Equal(got, want) {
			t.Errorf("LittleRuns(%v) is %v, not %v", list, got, want)
		}
	}
}
