package tests

import (
	"slices"
	"sync"

	"loop.example/g00857/impl"
)

// surroundings is what the oracle finds around a point.
type surroundings struct {
	dirs    []int64
	kinds   []int64
	sectors []int64
	report  impl.PointReport
}

// aroundPointOracle looks at a point of a valid pattern with a known border.
func aroundPointOracle(p impl.Pattern, border outline, point int64) surroundings {
	creases, dirs := spokesOracle(p, point)
	found := surroundings{dirs: dirs}
	for _, crease := range creases {
		found.kinds = append(found.kinds, p.Creases[crease].Kind)
	}
	place := slices.Index(border.ring, point)
	found.report = impl.PointReport{Point: point, Degree: int64(len(dirs)), Inside: place < 0, Kawasaki: true, Maekawa: true, Little: true}
	if place >= 0 {
		next := border.ring[(place+1)%len(border.ring)]
		before := border.ring[(place+len(border.ring)-1)%len(border.ring)]
		found.sectors = sweepOracle(dirs, directionOracle(p.Points[point], p.Points[next]), directionOracle(p.Points[point], p.Points[before]))
		return found
	}
	found.sectors = sweepOracle(dirs, dirs[0], dirs[0])
	sum, even := alternatingOracle(found.sectors)
	mountains, valleys := kindsOracle(found.kinds)
	isOpen := mountains+valleys < len(found.kinds)
	found.report.Kawasaki = even && sum == 0
	found.report.Maekawa = !isOpen && (mountains == valleys+2 || valleys == mountains+2)
	found.report.Little = !isOpen && littleOracle(found.sectors, found.kinds)
	return found
}

// sweepOracle turns unit by unit from one of some directions to another one, or once around, and returns
// the numbers of units from each direction to the next one.
func sweepOracle(dirs []int64, from, to int64) []int64 {
	var sectors []int64
	size := int64(0)
	for units := int64(1); units <= 16; units++ {
		size++
		d := (from + units) % 16
		if slices.Contains(dirs, d) {
			sectors = append(sectors, size)
			size = 0
		}
		if d == to {
			break
		}
	}
	return sectors
}

func kindsOracle(kinds []int64) (mountains, valleys int) {
	for _, kind := range kinds {
		switch kind {
		case impl.KdMountain:
			mountains++
		case impl.KdValley:
			valleys++
		}
	}
	return mountains, valleys
}

// innerOracle returns the kinds of the creases before each sector of a run and behind the last one.
func innerOracle(kinds []int64, run impl.SectorRun) []int64 {
	var inner []int64
	for i := run.From; i <= run.From+run.Count; i++ {
		inner = append(inner, kinds[i%int64(len(kinds))])
	}
	return inner
}

// littleOracle reports whether the creases of each little run can be folded.
func littleOracle(sectors, kinds []int64) bool {
	for _, run := range littleRunsOracle(sectors) {
		mountains, valleys := kindsOracle(innerOracle(kinds, run))
		difference := max(mountains, valleys) - min(mountains, valleys)
		if run.Count%2 == 1 && difference != 0 || run.Count%2 == 0 && difference != 1 {
			return false
		}
	}
	return true
}

// centred is a pattern with a point in which all creases meet that do not belong to the border.
type centred struct {
	impl.Pattern
	middle int64
	border outline
}

// starOf returns a square paper with a point in its middle, at a place, and creases from it in some
// directions to the border.
func starOf(place impl.Point, dirs, kinds []int64) centred {
	var ends []impl.Point
	for d := range int64(16) {
		if d%4 == 2 || slices.Contains(dirs, d) {
			ends = append(ends, besideOracle(place, d))
		}
	}
	return centredOf(place, ends, dirs, kinds)
}

// wedgeOf returns a paper with a point on its border, at a place, at which the paper has an angle of some
// units behind a direction, and creases from it in some directions between.
func wedgeOf(place impl.Point, first, angle int64, dirs, kinds []int64) centred {
	ends := []impl.Point{place}
	for unit := range angle + 1 {
		d := (first + unit) % 16
		if unit == 0 || unit == angle || d%4 == 2 || slices.Contains(dirs, d) {
			ends = append(ends, besideOracle(place, d))
		}
	}
	return centredOf(place, ends, dirs, kinds)
}

// centredOf returns the pattern with a border through some points, which are in counterclockwise order.
func centredOf(place impl.Point, ring []impl.Point, dirs, kinds []int64) centred {
	var folds []fold
	for i, p := range ring {
		folds = append(folds, fold{p, ring[(i+1)%len(ring)], impl.KdBorder})
	}
	for i, d := range dirs {
		folds = append(folds, fold{place, besideOracle(place, d), kinds[i]})
	}
	c := centred{Pattern: patternOf(folds)}
	c.middle = int64(slices.Index(c.Points, place))
	first := slices.Index(ring, c.Points[0])
	for _, p := range slices.Concat(ring[first:], ring[:first]) {
		c.border.ring = append(c.border.ring, int64(slices.Index(c.Points, p)))
	}
	return c
}

// besideOracle returns the point at the vector of a direction from a place. These vectors end on the
// sides of a square.
func besideOracle(place impl.Point, d int64) impl.Point {
	end, _ := exactPointOf(place).sum(vectorOracle(d)).valid()
	return end
}

// directionsOfMask returns the directions whose bits are set.
func directionsOfMask(mask int) []int64 {
	var dirs []int64
	for d := range int64(16) {
		if mask>>d&1 == 1 {
			dirs = append(dirs, d)
		}
	}
	return dirs
}

// randomKinds returns kinds of creases, rarely open ones if some may be open.
func randomKinds(state *uint64, count int, someOpen bool) []int64 {
	kinds := make([]int64, count)
	for i := range kinds {
		kinds[i] = impl.KdMountain + nextRandom(state, 2)
		if someOpen && nextRandom(state, 12) == 0 {
			kinds[i] = impl.KdOpen
		}
	}
	return kinds
}

// middles are places of the middle of stars and wedges.
var middles = []impl.Point{{}, {X: impl.Num{A: 5, B: -3, K: 1}, Y: impl.Num{A: -4}}, {X: impl.Num{A: -1, B: 2}, Y: impl.Num{B: 1, K: 3}}}

// someCentred are stars with many sets of directions and kinds, and wedges with all angles in all
// directions. They are not to be changed.
var someCentred = sync.OnceValue(func() []centred {
	var list []centred
	state := uint64(59)
	for mask := 1; mask < 1<<16; mask += 37 {
		dirs := directionsOfMask(mask)
		list = append(list, starOf(middles[mask%3], dirs, randomKinds(&state, len(dirs), mask%2 == 0)))
	}
	for _, cone := range allCones() {
		if dirs, ok := impl.DirectionsOf(nextRandom(&state, 3), cone); ok && nextRandom(&state, 3) == 0 {
			list = append(list, starOf(middles[len(list)%3], dirs, foldableKinds(&state, cone)))
		}
	}
	for first := range int64(16) {
		for angle := int64(1); angle <= 8; angle++ {
			for range 4 {
				var dirs []int64
				for unit := int64(1); unit < angle; unit++ {
					if nextRandom(&state, 2) == 0 {
						dirs = append(dirs, (first+unit)%16)
					}
				}
				list = append(list, wedgeOf(middles[len(list)%3], first, angle, dirs, randomKinds(&state, len(dirs), true)))
			}
		}
	}
	return list
})
