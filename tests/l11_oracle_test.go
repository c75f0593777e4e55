package tests

import (
	"slices"
	"sync"

	"loop.example/g00857/impl"
)

// compositions returns all lists of a number of elements of at least 1 with a sum.
func compositions(count, sum int64) [][]int64 {
	if count == 0 {
		if sum == 0 {
			return [][]int64{nil}
		}
		return nil
	}
	var all [][]int64
	for first := int64(1); first <= sum; first++ {
		for _, rest := range compositions(count-1, sum-first) {
			all = append(all, slices.Concat([]int64{first}, rest))
		}
	}
	return all
}

// allCones returns every valid cone: the sectors with even and with odd indices have the same sum.
var allCones = sync.OnceValue(func() [][]int64 {
	var all [][]int64
	for half := int64(1); half <= 8; half++ {
		for sum := half; sum <= 8; sum++ {
			for _, even := range compositions(half, sum) {
				for _, odd := range compositions(half, sum) {
					var cone []int64
					for i, sector := range even {
						cone = append(cone, sector, odd[i])
					}
					all = append(all, cone)
				}
			}
		}
	}
	return all
})

// isLeastCone reports whether no rotation or mirror image of a cone is less.
func isLeastCone(cone []int64) bool {
	return slices.Equal(cone, canonicalOracle(cone))
}

// kindsOfMask returns mountains and valleys by the bits of a number, of which the first one decides
// about the first crease.
func kindsOfMask(count, mask int) []int64 {
	kinds := make([]int64, count)
	for i := range kinds {
		kinds[i] = impl.KdMountain + int64(mask>>(count-1-i)&1)
	}
	return kinds
}

// loop is a cone with its kinds as a linked ring, in which each link is a sector with the crease before
// it. It is crimped by changing the links beside a run.
type loop struct {
	sector, kind int64
	next, before *loop
}

func loopOf(sectors, kinds []int64) *loop {
	links := make([]loop, len(sectors))
	for i := range links {
		links[i] = loop{sectors[i], kinds[i], &links[(i+1)%len(links)], &links[(i+len(links)-1)%len(links)]}
	}
	return &links[0]
}

// lists returns the sectors and kinds from a link on.
func (l *loop) lists() (sectors, kinds []int64) {
	for at := l; ; at = at.next {
		sectors, kinds = append(sectors, at.sector), append(kinds, at.kind)
		if at.next == l {
			return sectors, kinds
		}
	}
}

// littleFrom returns the last link of the little run that begins with a link.
func (l *loop) littleFrom() (*loop, bool) {
	last := l
	for last.next.sector == l.sector && last.next != l {
		last = last.next
	}
	return last, l.before.sector > l.sector && last.next.sector > l.sector
}

// crimped crimps the little run that begins with a link, and returns the link of the sector before it;
// false if its creases are not as required.
func (l *loop) crimped() (*loop, bool) {
	last, _ := l.littleFrom()
	before, behind := l.before, last.next
	count, mountains := 0, 0
	for at := l; at != behind.next; at = at.next {
		count++
		if at.kind == impl.KdMountain {
			mountains++
		}
	}
	if count%2 == 0 {
		before.sector += behind.sector - l.sector
		before.next, behind.next.before = behind.next, before
		return before, mountains*2 == count
	}
	before.next, behind.before = behind, before
	behind.kind = impl.KdValley
	if mountains*2 > count {
		behind.kind = impl.KdMountain
	}
	return before, mountains*2 == count-1 || mountains*2 == count+1
}

// crimpOracle crimps the first little run of a valid cone.
func crimpOracle(cone, kinds []int64) (sectors, left []int64, code int64) {
	l := loopOf(cone, kinds)
	for range cone {
		if _, ok := l.littleFrom(); ok {
			before, ok := l.crimped()
			if !ok {
				return nil, nil, impl.ErrNotFlat
			}
			sectors, left = before.lists()
			return sectors, left, impl.OK
		}
		l = l.next
	}
	return nil, nil, impl.ErrState
}

// foldsOracle crimps little runs one after the other, each of which is found by going on a number of
// links from the last one. The result does not depend on it.
func foldsOracle(cone, kinds []int64, step int) bool {
	l := loopOf(cone, kinds)
	for missed := 0; missed <= len(cone); missed++ {
		if _, ok := l.littleFrom(); ok {
			if l, ok = l.crimped(); !ok {
				return false
			}
			missed = 0
			for range step {
				l = l.next
			}
			continue
		}
		l = l.next
	}
	_, rest := l.lists()
	mountains, valleys := kindsOracle(rest)
	return mountains == valleys+2 || valleys == mountains+2
}

// foldableKinds returns kinds with which a valid cone can be folded, and now and then one of them is
// open or exchanged.
func foldableKinds(state *uint64, cone []int64) []int64 {
	for {
		kinds := randomKinds(state, len(cone), false)
		if foldsOracle(cone, kinds, 0) {
			if spoil := nextRandom(state, 20); spoil < 8 && spoil < int64(len(kinds)) {
				kinds[spoil] = impl.KdMountain + nextRandom(state, 3)
			}
			return kinds
		}
	}
}

// folder lays the sectors of a cone on one another, from the least place to the greatest one: between
// two neighbouring places there is a stack of the sectors that cover this interval.
type folder struct {
	cone   []int64
	places []int64
	levels []int64 // the different places in ascending order
	order  []int64
	limit  int // how many orders are enough
	steps  int // how many steps may be taken to find them
	found  [][]int64
}

func folderOf(cone []int64) *folder {
	f := folder{cone: cone}
	place := int64(0)
	for i, sector := range cone {
		f.places = append(f.places, place)
		place += sector - 2*sector*int64(i%2)
	}
	f.levels = slices.Clone(f.places)
	slices.Sort(f.levels)
	f.levels = slices.Compact(f.levels)
	return &f
}

// layOrders returns all orders without crossings, in ascending order, or some of them if a limit is
// reached. They are found as stacks in which the sectors beside creases are like brackets.
func layOrders(cone []int64, limit, steps int) [][]int64 {
	f := folderOf(cone)
	f.limit, f.steps, f.order = limit, steps, make([]int64, len(cone)*len(cone))
	f.lay(0, nil)
	slices.SortFunc(f.found, slices.Compare)
	return f.found
}

// ends returns the least and the greatest place of a sector.
func (f *folder) ends(sector int) (int64, int64) {
	a, b := f.places[sector], f.places[(sector+1)%len(f.cone)]
	return min(a, b), max(a, b)
}

// partner returns the sector on the other side of the crease at the least or the greatest place of a
// sector. Sectors with an even index begin with the crease at their least place.
func (f *folder) partner(sector int, atLeast bool) int {
	if (sector%2 == 0) == atLeast {
		return (sector + len(f.cone) - 1) % len(f.cone)
	}
	return (sector + 1) % len(f.cone)
}

// lay goes on at a place with the stack before it.
func (f *folder) lay(level int, stack []int) {
	var passing, begin []int
	var open []int
	for _, sector := range stack {
		if _, high := f.ends(sector); high > f.levels[level] {
			if len(open) > 0 {
				return // it runs through a crease
			}
			passing = append(passing, sector)
		} else if partner := f.partner(sector, false); len(open) > 0 && open[len(open)-1] == partner {
			open = open[:len(open)-1]
		} else {
			open = append(open, sector)
		}
	}
	if len(open) > 0 {
		return // two creases cross
	}
	if level == len(f.levels)-1 {
		f.found = append(f.found, slices.Clone(f.order))
		return
	}
	for sector := range f.cone {
		if low, _ := f.ends(sector); low == f.levels[level] {
			begin = append(begin, sector)
		}
	}
	f.insert(level, passing, begin, nil, nil)
}

// insert puts the sectors that begin at a place between those that pass it, in all ways, from top to
// bottom.
func (f *folder) insert(level int, passing, begin, stack, open []int) {
	f.steps--
	if f.steps < 0 || len(f.found) >= f.limit {
		return
	}
	if len(passing) == 0 && len(begin) == 0 {
		f.record(stack)
		f.lay(level+1, stack)
		return
	}
	if len(passing) > 0 && len(open) == 0 {
		f.insert(level, passing[1:], begin, slices.Concat(stack, passing[:1]), nil)
	}
	for i, sector := range begin {
		rest := slices.Concat(begin[:i], begin[i+1:])
		partner := f.partner(sector, true)
		switch next := slices.Concat(stack, []int{sector}); {
		case !slices.Contains(stack, partner):
			f.insert(level, passing, rest, next, slices.Concat(open, []int{sector}))
		case open[len(open)-1] == partner:
			f.insert(level, passing, rest, next, open[:len(open)-1])
		}
	}
}

// record notes for each sector of a stack that it is above those behind it. The next stack between the
// same places overwrites that.
func (f *folder) record(stack []int) {
	for i, upper := range stack {
		for _, lower := range stack[i+1:] {
			f.order[upper*len(f.cone)+lower] = 1
			f.order[lower*len(f.cone)+upper] = -1
		}
	}
}

// kindsInOrder returns the kind of each crease: the upright one of its sectors is above the other one
// exactly at a mountain.
func kindsInOrder(cone, order []int64) []int64 {
	n := len(cone)
	var kinds []int64
	for crease := range cone {
		before := (crease + n - 1) % n
		above := order[before*n+crease] == 1 // the sector before the crease is above the one behind it
		if above == (before%2 == 0) {
			kinds = append(kinds, impl.KdMountain)
		} else {
			kinds = append(kinds, impl.KdValley)
		}
	}
	return kinds
}

// brokenOracle returns the numbers of the conditions that an order breaks, in ascending order.
func brokenOracle(cone, kinds, order []int64) []int {
	n := len(cone)
	if len(order) != n*n {
		return []int{1}
	}
	f := folderOf(cone)
	var broken []int
	for i, breaks := range []func(kinds, order []int64) bool{f.breaksForm, f.breaksCircle, f.breaksCrease, f.breaksNesting, f.breaksKind} {
		if breaks(kinds, order) {
			broken = append(broken, i+1)
		}
	}
	return broken
}

// common returns the length of the common interval of sectors, which may be negative.
func (f *folder) common(sectors ...int) int64 {
	low, high := f.ends(sectors[0])
	for _, sector := range sectors[1:] {
		otherLow, otherHigh := f.ends(sector)
		low, high = max(low, otherLow), min(high, otherHigh)
	}
	return high - low
}

func (f *folder) breaksForm(kinds, order []int64) bool {
	n := len(f.cone)
	for i := range n {
		for k := range n {
			value := order[i*n+k]
			if i == k || f.common(i, k) <= 0 {
				if value != 0 {
					return true
				}
			} else if value != 1 && value != -1 || order[k*n+i] != -value {
				return true
			}
		}
	}
	return false
}

func (f *folder) breaksCircle(kinds, order []int64) bool {
	n := len(f.cone)
	for i := range n {
		for j := range n {
			for k := range n {
				if i != j && j != k && k != i && f.common(i, j, k) > 0 && order[i*n+j] == 1 && order[j*n+k] == 1 && order[k*n+i] == 1 {
					return true
				}
			}
		}
	}
	return false
}

// isBetween reports whether a sector is above one of two others and below the other one.
func isBetween(order []int64, n, sector, a, b int) bool {
	over, under := order[sector*n+a], order[sector*n+b]
	return over == 1 && under == -1 || over == -1 && under == 1
}

func (f *folder) breaksCrease(kinds, order []int64) bool {
	n := len(f.cone)
	for crease, place := range f.places {
		for sector := range n {
			low, high := f.ends(sector)
			if low < place && place < high && isBetween(order, n, sector, (crease+n-1)%n, crease) {
				return true
			}
		}
	}
	return false
}

func (f *folder) breaksNesting(kinds, order []int64) bool {
	n := len(f.cone)
	for c, place := range f.places {
		for d := range n {
			if c == d || f.places[d] != place {
				continue
			}
			_, high := f.ends(c)
			_, otherHigh := f.ends(d)
			a, b := (c+n-1)%n, c
			if (high > place) == (otherHigh > place) && isBetween(order, n, (d+n-1)%n, a, b) != isBetween(order, n, d, a, b) {
				return true
			}
		}
	}
	return false
}

func (f *folder) breaksKind(kinds, order []int64) bool {
	n := len(f.cone)
	for crease, kind := range kinds {
		upright, other := crease, (crease+n-1)%n
		if upright%2 == 1 {
			upright, other = other, upright
		}
		above := order[upright*n+other]
		if kind == impl.KdMountain && above != 1 || kind == impl.KdValley && above != -1 {
			return true
		}
	}
	return false
}
