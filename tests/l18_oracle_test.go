package tests

import (
	"fmt"
	"slices"
	"strings"
	"sync"
	"testing"

	"loop.example/g00857/impl"
)

// mustState reads a state, which need not be valid: its paper, its order as one character for each element
// (`+`, `-` and `.`), and each face as its polygon, `/` and its motion, all separated by `;`.
func mustState(t *testing.T, text string) impl.State {
	t.Helper()
	words := strings.Split(text, ";")
	s := impl.State{Paper: mustPoints(t, words[0])}
	for _, sign := range strings.TrimSpace(words[1]) {
		s.Order = append(s.Order, int64(strings.IndexRune("-.+", sign)-1))
	}
	for _, word := range words[2:] {
		polygon, motion, _ := strings.Cut(word, "/ ")
		s.Faces = append(s.Faces, impl.Face{Poly: mustPoints(t, polygon), Move: mustMotion(t, strings.TrimSpace(motion))})
	}
	return s
}

// stateText shows a state in messages.
func stateText(s impl.State) string {
	if len(s.Paper)+len(s.Faces) > 100 || len(s.Order) > 1000 {
		return fmt.Sprintf("a state with %d corners, %d faces and %d elements", len(s.Paper), len(s.Faces), len(s.Order))
	}
	words := []string{impl.PolygonText(s.Paper), fmt.Sprint(s.Order)}
	for _, f := range s.Faces {
		words = append(words, impl.PolygonText(f.Poly)+" / "+impl.MotionText(f.Move))
	}
	return strings.Join(words, "; ")
}

// stateFacts is what the oracle finds out about a valid state.
type stateFacts struct {
	places [][]impl.Point
	rings  [][]exactPoint // the places
	joints []impl.Joint
}

// stateOracle checks the conditions of the definition one after the other.
func stateOracle(s impl.State) (stateFacts, bool) {
	if !validPolygonOracle(s.Paper) || len(s.Faces) < 1 || len(s.Faces) > impl.MaxFaces || !coverOracle(s) {
		return stateFacts{}, false
	}
	var facts stateFacts
	for _, f := range s.Faces {
		if f.Move.Turn < 0 || f.Move.Turn > 7 || !impl.ValidPoint(impl.Point{X: f.Move.X, Y: f.Move.Y}) {
			return stateFacts{}, false
		}
		place, ok := movePolygonOracle(f.Move, f.Poly)
		if !ok {
			return stateFacts{}, false
		}
		facts.places, facts.rings = append(facts.places, place), append(facts.rings, exactRing(place))
	}
	joints, ok := neighboursOracle(s)
	if !ok || !orderOracle(s.Order, facts.rings) {
		return stateFacts{}, false
	}
	for _, j := range joints {
		if !frameOf(s.Faces[j.A].Move).crossed(j.P, j.Q).equals(frameOf(s.Faces[j.B].Move)) {
			return stateFacts{}, false
		}
		upright, other := j.A, j.B
		if s.Faces[j.A].Move.Flip {
			upright, other = j.B, j.A
		}
		j.Kind = impl.KdMountain
		if s.Order[upright*int64(len(s.Faces))+other] == -1 {
			j.Kind = impl.KdValley
		}
		facts.joints = append(facts.joints, j)
	}
	return facts, true
}

// coverOracle reports whether the faces are polygons in order that are in the paper, do not overlap, and
// have the same area as the paper.
func coverOracle(s impl.State) bool {
	paper := exactRing(s.Paper)
	rest := areaOracle(paper)
	var rings [][]exactPoint
	for i, f := range s.Faces {
		ring := exactRing(f.Poly)
		if !validPolygonOracle(f.Poly) || i > 0 && slices.CompareFunc(rings[i-1], ring, compareExact) >= 0 {
			return false
		}
		for _, corner := range ring {
			if inOracle(paper, corner) < 0 {
				return false
			}
		}
		for _, other := range rings {
			if !isBeside(other, ring) {
				return false
			}
		}
		rings, rest = append(rings, ring), rest.difference(areaOracle(ring))
	}
	return rest.isZero()
}

// neighboursOracle returns the joints without their kinds, and whether each side of a face is on a side of
// the paper or that of exactly one other face.
func neighboursOracle(s impl.State) ([]impl.Joint, bool) {
	paper := exactRing(s.Paper)
	var list []impl.Joint
	for i, f := range s.Faces {
		for k, p := range f.Poly {
			side := fold{p: p, q: f.Poly[(k+1)%len(f.Poly)]}
			count := 0
			for j, other := range s.Faces {
				for m, q := range other.Poly {
					if i == j || !side.isAt(q) || !side.isAt(other.Poly[(m+1)%len(other.Poly)]) {
						continue
					}
					count++
					if i < j {
						ends := []impl.Point{side.p, side.q}
						slices.SortFunc(ends, byPlace)
						list = append(list, impl.Joint{A: int64(i), B: int64(j), P: ends[0], Q: ends[1]})
					}
				}
			}
			if count != 1 && !onSideOracle(paper, side.stroke()) {
				return nil, false
			}
		}
	}
	slices.SortFunc(list, func(a, b impl.Joint) int { return int(100*(a.A-b.A) + a.B - b.B) })
	return list, true
}

// orderOracle reports whether an order is one for places.
func orderOracle(order []int64, rings [][]exactPoint) bool {
	n := len(rings)
	if len(order) != n*n {
		return false
	}
	for i := range n {
		for k := range n {
			value, back := order[i*n+k], order[k*n+i]
			if value < -1 || value > 1 || value != -back {
				return false
			}
			if lies := i != k && !isBeside(rings[i], rings[k]); lies != (value != 0) {
				return false
			}
		}
	}
	return true
}

// layersOracle takes the face that is above no other one, again and again.
func layersOracle(s impl.State, facts stateFacts, p impl.Point) ([]int64, int64) {
	var over, list []int64
	for i, ring := range facts.rings {
		if inOracle(ring, exactPointOf(p)) == 1 {
			over = append(over, int64(i))
		}
	}
	for len(over) > 0 {
		lowest := slices.IndexFunc(over, func(face int64) bool {
			return !slices.ContainsFunc(over, func(other int64) bool { return s.Order[face*int64(len(s.Faces))+other] == 1 })
		})
		if lowest < 0 {
			return nil, impl.ErrOrder
		}
		list = append(list, over[lowest])
		over = slices.Delete(over, lowest, lowest+1)
	}
	return list, impl.OK
}

// moveStateOracle moves a valid state.
func moveStateOracle(s impl.State, m impl.Motion) (impl.State, int64) {
	moved := impl.State{Paper: s.Paper}
	for _, f := range s.Faces {
		move, ok := composeOracle(f.Move, m)
		if !ok {
			return impl.State{}, impl.ErrRange
		}
		if _, ok := movePolygonOracle(move, f.Poly); !ok {
			return impl.State{}, impl.ErrRange
		}
		moved.Faces = append(moved.Faces, impl.Face{Poly: f.Poly, Move: move})
	}
	for _, value := range s.Order {
		if m.Flip {
			value = -value
		}
		moved.Order = append(moved.Order, value)
	}
	return moved, impl.OK
}

func normalStateOracle(s impl.State) (impl.State, int64) {
	back, ok := invertOracle(s.Faces[0].Move)
	if !ok {
		return impl.State{}, impl.ErrRange
	}
	return moveStateOracle(s, back)
}

// leavesOfPattern returns the faces of a pattern that folds flat.
func leavesOfPattern(t *testing.T, p impl.Pattern) []leaf {
	t.Helper()
	m := foldingOracle(t, p)
	if m.bad >= 0 {
		t.Fatalf("%s does not fold", patternText(p))
	}
	var leaves []leaf
	for i, face := range m.faces {
		leaves = append(leaves, leaf{exactRing(face), m.frames[i]})
	}
	return leaves
}

// stateOfLeaves returns the state with leaves as its faces, after a further motion. Faces that lie over one
// another are ordered by random layers, or at random if loose is set.
func stateOfLeaves(state *uint64, paper []impl.Point, leaves []leaf, m impl.Motion, loose bool) (impl.State, bool) {
	s := impl.State{Paper: paper}
	leaves = slices.Clone(leaves)
	slices.SortFunc(leaves, func(a, b leaf) int { return slices.CompareFunc(a.ring, b.ring, compareExact) })
	var rings [][]exactPoint
	var layers []int64
	for _, l := range leaves {
		polygon, polygonOk := validRing(l.ring)
		move, moveOk := motionOracle(l.move.before(frameOf(m)).place)
		place, placeOk := movePolygonOracle(move, polygon)
		if !polygonOk || !moveOk || !placeOk {
			return impl.State{}, false
		}
		s.Faces = append(s.Faces, impl.Face{Poly: polygon, Move: move})
		rings, layers = append(rings, exactRing(place)), append(layers, nextRandom(state, 1<<30))
	}
	n := len(leaves)
	s.Order = make([]int64, n*n)
	for i := range n {
		for k := range i {
			if isBeside(rings[i], rings[k]) {
				continue
			}
			above := int64(1)
			if loose && nextRandom(state, 2) == 0 || !loose && layers[i] < layers[k] {
				above = -1
			}
			s.Order[i*n+k], s.Order[k*n+i] = above, -above
		}
	}
	return s, true
}

var statesOnce sync.Once
var builtStates []impl.State

// someStates are valid states with up to MaxFaces faces, which are not to be changed.
func someStates(t *testing.T) []impl.State {
	t.Helper()
	statesOnce.Do(func() {
		state := uint64(107)
		shifts := someMotions(t)
		add := func(paper []impl.Point, leaves []leaf) {
			for _, m := range []impl.Motion{{}, shifts[nextRandom(&state, uint64(len(shifts)))]} {
				if s, ok := stateOfLeaves(&state, paper, leaves, m, len(builtStates)%3 == 0); ok {
					builtStates = append(builtStates, s)
				}
			}
		}
		for _, model := range someModels() {
			if paper, ok := validRing(model.paper); ok {
				add(paper, model.leaves)
			}
		}
		for _, p := range flatPatterns(t) {
			add(impl.PaperOf(p), leavesOfPattern(t, p))
		}
	})
	if len(builtStates) == 0 {
		t.Fatal("there are no states")
	}
	return builtStates
}

// flatPatterns are patterns that fold flat: grids, those of the library, and such with one interior point.
func flatPatterns(t *testing.T) []impl.Pattern {
	t.Helper()
	list := []impl.Pattern{gridPattern(6, 4), gridPattern(12, 2), gridPattern(5, 1), sidePattern(9), stripesPattern(5)}
	for _, name := range impl.LibraryNames() {
		p, _ := impl.LibraryPattern(name)
		list = append(list, p)
	}
	for i, c := range someCentred() {
		if _, code := impl.FacesOf(c.Pattern); i%30 == 0 && code == impl.OK && impl.KawasakiAt(c.Pattern, c.middle) {
			list = append(list, c.Pattern)
		}
	}
	return list
}

func cloneState(s impl.State) impl.State {
	other := impl.State{Paper: slices.Clone(s.Paper), Faces: slices.Clone(s.Faces), Order: slices.Clone(s.Order)}
	for i, f := range other.Faces {
		other.Faces[i].Poly = slices.Clone(f.Poly)
	}
	return other
}

// statesLike returns variants of a state, most of which are not valid.
func statesLike(s impl.State, seed uint64) []impl.State {
	var list []impl.State
	n := len(s.Faces)
	pick := func(n int) int { return int(nextRandom(&seed, uint64(n))) }
	add := func(change func(s *impl.State)) {
		variant := cloneState(s)
		change(&variant)
		list = append(list, variant)
	}
	addMoved := func(change func(m *impl.Motion)) {
		add(func(s *impl.State) { change(&s.Faces[pick(n)].Move) })
	}
	addMoved(func(m *impl.Motion) { m.Flip = !m.Flip })
	addMoved(func(m *impl.Motion) { m.Turn = (m.Turn + 4) % 8 })
	addMoved(func(m *impl.Motion) { m.Turn += int64(pick(9)) })
	addMoved(func(m *impl.Motion) { m.X.A++ })
	addMoved(func(m *impl.Motion) { m.Y.B-- })
	addMoved(func(m *impl.Motion) { m.X.K = int64(pick(14)) - 1 })
	add(func(s *impl.State) { s.Faces[pick(n)].Move = s.Faces[pick(n)].Move })
	add(func(s *impl.State) { s.Faces[pick(n)].Poly = slices.Clone(s.Faces[pick(n)].Poly) })
	add(func(s *impl.State) { p := s.Faces[pick(n)].Poly; p[pick(len(p))].X.A++ })
	add(func(s *impl.State) { p := s.Faces[pick(n)].Poly; p[pick(len(p))] = randomPoint(&seed) })
	add(func(s *impl.State) { p := &s.Faces[pick(n)].Poly; *p = slices.Concat((*p)[1:], (*p)[:1]) })
	add(func(s *impl.State) { p := &s.Faces[pick(n)].Poly; *p = (*p)[1:] })
	add(func(s *impl.State) { s.Paper = slices.Concat(s.Paper[1:], s.Paper[:1]) })
	add(func(s *impl.State) { s.Paper = s.Paper[:len(s.Paper)-1] })
	add(func(s *impl.State) { s.Paper = slices.Clone(s.Faces[pick(n)].Poly) })
	add(func(s *impl.State) { s.Paper[pick(len(s.Paper))].Y.A-- })
	add(func(s *impl.State) { i, k := pick(n), pick(n); s.Faces[i], s.Faces[k] = s.Faces[k], s.Faces[i] })
	add(func(s *impl.State) { s.Faces = s.Faces[:pick(n)] })
	add(func(s *impl.State) { s.Faces = append(s.Faces, s.Faces[pick(n)]) })
	add(func(s *impl.State) { s.Order = s.Order[:n*n-1] })
	add(func(s *impl.State) { s.Order = append(s.Order, 0) })
	for range 3 {
		add(func(s *impl.State) { s.Order[pick(n*n)] = int64(pick(5) - 2) })
		add(func(s *impl.State) {
			i, k, value := pick(n), pick(n), int64(pick(3)-1)
			s.Order[i*n+k], s.Order[k*n+i] = value, -value
		})
		add(func(s *impl.State) {
			i, k := pick(n), pick(n)
			s.Order[i*n+k], s.Order[k*n+i] = -s.Order[i*n+k], -s.Order[k*n+i]
		})
	}
	add(func(s *impl.State) { removeFace(s, pick(n)) })
	add(func(s *impl.State) { divideFace(s, pick(n), &seed) })
	return list
}

// removeFace removes a face with its elements of the order.
func removeFace(s *impl.State, face int) {
	n := len(s.Faces)
	var order []int64
	for i := range n {
		for k := range n {
			if i != face && k != face {
				order = append(order, s.Order[i*n+k])
			}
		}
	}
	s.Faces, s.Order = slices.Delete(s.Faces, face, face+1), order
}

// divideFace folds a face along a line through it, as if it were by itself. If a neighbour is divided by
// that, the state is not valid.
func divideFace(s *impl.State, face int, state *uint64) {
	f := s.Faces[face]
	ring := exactRing(f.Poly)
	cut := exactLine{normal: normalOracle(nextRandom(state, 8))}
	cut.off = cut.normal.dot(ring[0].sum(ring[2]).scaled(exactParts(1, 0, 1)))
	stays, stayOk := validRing(halfOracle(ring, cut, -1))
	moves, moveOk := validRing(halfOracle(ring, cut, 1))
	if !stayOk || !moveOk || len(stays) == 0 || len(moves) == 0 || len(s.Faces) == impl.MaxFaces {
		return
	}
	s.Faces[face].Poly = stays
	s.Faces = append(s.Faces, impl.Face{Poly: moves, Move: f.Move})
	var leaves []leaf
	for _, f := range s.Faces {
		leaves = append(leaves, leaf{exactRing(f.Poly), frameOf(f.Move)})
	}
	stay := frameOf(f.Move)
	leaves[len(leaves)-1].move = frameBy(func(v exactPoint) exactPoint { return stay.place(cut.mirror(v)) })
	if divided, ok := stateOfLeaves(state, s.Paper, leaves, impl.Motion{}, true); ok {
		*s = divided
	}
}

// wildStates are states with fields far outside of the limits, and very long ones.
func wildStates(t *testing.T) []impl.State {
	t.Helper()
	good := mustState(t, halfText)
	list := []impl.State{{}, {Paper: good.Paper}, {Paper: good.Paper, Faces: good.Faces}, {Faces: good.Faces, Order: good.Order}, {Paper: good.Paper, Order: []int64{0}}}
	add := func(change func(s *impl.State)) {
		variant := cloneState(good)
		change(&variant)
		list = append(list, variant)
	}
	for _, v := range extremes() {
		for i := range good.Order {
			add(func(s *impl.State) { s.Order[i] = v })
			add(func(s *impl.State) { s.Order[i], s.Order[3-i] = v, -v })
		}
	}
	for i, m := range invalidMotions() {
		add(func(s *impl.State) { s.Faces[i%2].Move = m })
	}
	for i, p := range invalidPoints() {
		add(func(s *impl.State) { s.Paper[i%4] = p })
		add(func(s *impl.State) { s.Faces[i%2].Poly[i%4] = p })
	}
	for _, n := range []int{5, 17, 24, 25, 1000, 100000} {
		add(func(s *impl.State) { s.Paper = slices.Repeat(s.Paper, n) })
		add(func(s *impl.State) { s.Faces[1].Poly = make([]impl.Point, n) })
		add(func(s *impl.State) { s.Order = make([]int64, n) })
		add(func(s *impl.State) { s.Faces = slices.Repeat(s.Faces, n) })
		add(func(s *impl.State) { s.Faces, s.Order = make([]impl.Face, n), make([]int64, min(n, 1000)*min(n, 1000)) })
	}
	return list
}
