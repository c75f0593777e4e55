package tests

import (
	"fmt"
	"math"
	"reflect"
	"slices"
	"testing"

	"loop.example/g00857/impl"
)

// Promise 1 for chapter 18: every function returns, repeats its result, changes no argument, and keeps
// no memory of one.

// guardState returns a copy of a state whose lists have some unused capacity, and a function that reports
// whether all of it is unchanged.
func guardState(s impl.State) (impl.State, func() bool) {
	paper, paperKept := guard(s.Paper, sparePoint)
	order, orderKept := guard(s.Order, 1)
	whole := slices.Concat(s.Faces, slices.Repeat([]impl.Face{{Poly: []impl.Point{sparePoint}, Move: spareMotion}}, 5))
	kept := []func() bool{paperKept, orderKept}
	for i := range s.Faces {
		polygon, polygonKept := guard(s.Faces[i].Poly, sparePoint)
		whole[i].Poly = polygon
		kept = append(kept, polygonKept)
	}
	before := slices.Clone(whole)
	kept = append(kept, func() bool { return reflect.DeepEqual(whole, before) })
	return impl.State{Paper: paper, Faces: whole[:len(s.Faces)], Order: order}, func() bool {
		return !slices.ContainsFunc(kept, func(isKept func() bool) bool { return !isKept() })
	}
}

// stateResult describes a returned state; the list of all faces is shown by their motions.
func stateResult(s impl.State, rest ...any) result {
	motions := func() string {
		text := ""
		for _, f := range s.Faces {
			text += fmt.Sprint(f.Move, len(f.Poly), ";")
		}
		return text
	}
	lists := []shownList{listOf(s.Paper, markedPoint), listOf(s.Order, -99)}
	for _, f := range s.Faces {
		lists = append(lists, listOf(f.Poly, markedPoint))
	}
	return resultOf(append(lists, shownList{motions, func() { overwrite(s.Faces, impl.Face{Move: markedMotion}) }}), rest...)
}

func stateResults(s, other impl.State, m impl.Motion, p impl.Point) map[string]func() result {
	state := func(call func() (impl.State, int64)) func() result {
		return func() result {
			got, code := call()
			return stateResult(got, code)
		}
	}
	return map[string]func() result{
		"StartState":  state(func() (impl.State, int64) { return impl.StartState(s.Paper) }),
		"TurnOver":    state(func() (impl.State, int64) { return impl.TurnOver(s) }),
		"MoveState":   state(func() (impl.State, int64) { return impl.MoveState(s, m) }),
		"NormalState": state(func() (impl.State, int64) { return impl.NormalState(s) }),
		"PlacesOf": func() result {
			places, code := impl.PlacesOf(s)
			return resultOf(rowsOf(places, markedPoint), code)
		},
		"JointsOf": func() result {
			joints, code := impl.JointsOf(s)
			return resultOf([]shownList{listOf(joints, markedJoint)}, code)
		},
		"LayersAt": func() result {
			layers, code := impl.LayersAt(s, p)
			return resultOf([]shownList{listOf(layers, -99)}, code)
		},
		"the others": func() result {
			return resultOf(nil, impl.ValidState(s), impl.SameState(s, s), impl.SameState(s, other), impl.AlikeStates(s, other), impl.AlikeStates(s, s))
		},
	}
}

func checkStatePure(t *testing.T, s, other impl.State, m impl.Motion, p impl.Point) {
	t.Helper()
	argument, kept := guardState(s)
	second, secondKept := guardState(other)
	for name, call := range stateResults(argument, second, m, p) {
		checkResults(t, name, stateText(s), call, func() bool { return kept() && secondKept() })
	}
}

func TestPromise1StatesAreNotChangedOrShared(t *testing.T) {
	t.Parallel()
	motions := someMotions(t)
	states := someStates(t)
	for i, s := range states {
		places, _ := impl.PlacesOf(s)
		middle, _ := impl.MidPoint(places[0][0], places[0][2])
		checkStatePure(t, s, states[(i+1)%len(states)], motions[i%len(motions)], middle)
		for k, variant := range statesLike(s, uint64(i)) {
			if k%10 == i%10 {
				checkStatePure(t, variant, s, motions[(i+k)%len(motions)], places[0][0])
			}
		}
	}
	for _, v := range wrongStates {
		checkStatePure(t, mustState(t, v.text), states[0], impl.Motion{}, impl.Point{})
	}
}

func TestPromise1StatesReturnForAllArguments(t *testing.T) {
	t.Parallel()
	motions := slices.Concat(someMotions(t), invalidMotions())
	points := slices.Concat(somePoints(), invalidPoints())
	values := slices.Concat(extremes(), slices.Repeat([]int64{-1, 0, 1}, 40))
	nums := slices.Concat(wildNums(), invalidNums(), slices.Repeat(someNums(), 60))
	state := uint64(113)
	states := slices.Concat(someStates(t), wildStates(t))
	for i, s := range states {
		variant := cloneState(s)
		if n := len(variant.Order); n > 0 && i%2 == 0 {
			variant.Order[nextRandom(&state, uint64(n))] = values[nextRandom(&state, uint64(len(values)))]
		}
		if n := len(variant.Faces); n > 0 && i%3 == 0 {
			f := &variant.Faces[nextRandom(&state, uint64(n))]
			f.Move = motions[nextRandom(&state, uint64(len(motions)))]
			if m := len(f.Poly); m > 0 && i%2 == 0 {
				f.Poly[nextRandom(&state, uint64(m))].X = nums[nextRandom(&state, uint64(len(nums)))]
			}
		}
		m, p := motions[nextRandom(&state, uint64(len(motions)))], points[nextRandom(&state, uint64(len(points)))]
		for name, call := range stateResults(variant, s, m, p) {
			if first, second := call().shown(-1), call().shown(-1); first != second {
				t.Errorf("%s: the results for %s are %s and %s", name, stateText(variant), first, second)
			}
		}
	}
	huge := impl.State{Paper: make([]impl.Point, 300000), Faces: make([]impl.Face, 300000), Order: slices.Repeat([]int64{math.MinInt64}, 300000)}
	for _, call := range stateResults(huge, huge, impl.Motion{}, impl.Point{}) {
		call()
	}
}

// Promise 20: neighbours in a state agree on their joint and overlap; moving and turning over keep a state
// alike.

// checkState compares everything about a valid state with the oracle.
func checkState(t *testing.T, s impl.State) {
	t.Helper()
	facts, ok := stateOracle(s)
	if !ok || !impl.ValidState(s) {
		t.Fatalf("%s is valid: %v, not %v", stateText(s), impl.ValidState(s), ok)
	}
	places, code := impl.PlacesOf(s)
	if code != impl.OK || !slices.EqualFunc(places, facts.places, slices.Equal) {
		t.Errorf("the places of %s are %v, %d, not %v", stateText(s), places, code, facts.places)
	}
	joints, code := impl.JointsOf(s)
	if code != impl.OK || !slices.Equal(joints, facts.joints) {
		t.Errorf("the joints of %s are %v, %d, not %v", stateText(s), joints, code, facts.joints)
	}
	checkNeighbours(t, s, joints, places)
	want, wantCode := normalStateOracle(s)
	normal, code := impl.NormalState(s)
	if code != wantCode || !impl.SameState(normal, want) {
		t.Errorf("the normal state of %s is %s, %d, not %s, %d", stateText(s), stateText(normal), code, stateText(want), wantCode)
	}
	if code == impl.OK && (normal.Faces[0].Move != impl.Identity() || !impl.ValidState(normal)) || impl.AlikeStates(s, s) != (code == impl.OK) {
		t.Errorf("the normal state of %s is %s", stateText(s), stateText(normal))
	}
}

// checkNeighbours checks that both faces of each joint move it to the same place, where they overlap, and
// that exactly one of them has its back up.
func checkNeighbours(t *testing.T, s impl.State, joints []impl.Joint, places [][]impl.Point) {
	t.Helper()
	for _, j := range joints {
		a, b := s.Faces[j.A], s.Faces[j.B]
		for _, end := range []impl.Point{j.P, j.Q} {
			first, firstOk := impl.MovePoint(a.Move, end)
			second, secondOk := impl.MovePoint(b.Move, end)
			if !firstOk || !secondOk || first != second || impl.InPolygon(a.Poly, end) != 0 || impl.InPolygon(b.Poly, end) != 0 {
				t.Errorf("the end %v of a joint of %s is moved to %v, %v and %v, %v", end, stateText(s), first, firstOk, second, secondOk)
			}
		}
		if a.Move.Flip == b.Move.Flip || !impl.OverlapPolygons(places[j.A], places[j.B]) || impl.OverlapPolygons(a.Poly, b.Poly) {
			t.Errorf("the faces %d and %d of %s do not lie over one another", j.A, j.B, stateText(s))
		}
		upright, other := j.A, j.B
		if a.Move.Flip {
			upright, other = j.B, j.A
		}
		above := s.Order[upright*int64(len(s.Faces))+other]
		if above == 0 || (j.Kind == impl.KdValley) != (above < 0) || (j.Kind == impl.KdMountain) != (above > 0) {
			t.Errorf("the joint %v of %s has the order %d", j, stateText(s), above)
		}
	}
}

func TestPromise20StatesAreExact(t *testing.T) {
	t.Parallel()
	counts := map[int]int{}
	for _, s := range someStates(t) {
		checkState(t, s)
		counts[len(s.Faces)]++
	}
	if counts[1] < 3 || counts[2] < 20 || counts[4] < 20 || counts[24] < 2 || len(counts) < 10 {
		t.Errorf("the numbers of states by their numbers of faces are %v", counts)
	}
}

func TestPromise20ValidityIsExact(t *testing.T) {
	t.Parallel()
	counts := map[bool]int{}
	for i, s := range someStates(t) {
		if len(s.Faces) > 6 && i%4 > 0 {
			continue
		}
		for _, variant := range statesLike(s, uint64(i)+5) {
			_, ok := stateOracle(variant)
			if impl.ValidState(variant) != ok {
				t.Errorf("%s is valid: %v, not %v", stateText(variant), !ok, ok)
			}
			if !ok && i%8 == 0 {
				checkStateRejected(t, variant)
			}
			if ok && i%4 == 0 {
				checkState(t, variant)
			}
			counts[ok]++
		}
	}
	if counts[true] < 300 || counts[false] < 2000 {
		t.Errorf("the numbers of valid and other states are %v", counts)
	}
}

func TestPromise20MovedStatesAreAlike(t *testing.T) {
	t.Parallel()
	counts := map[int64]int{}
	motions := someMotions(t)
	for i, s := range someStates(t) {
		joints, _ := impl.JointsOf(s)
		_, normalCode := impl.NormalState(s)
		for k := range 4 {
			m := motions[(i*29+k*k*7)%len(motions)]
			want, wantCode := moveStateOracle(s, m)
			moved, code := impl.MoveState(s, m)
			counts[code]++
			if code != wantCode || !impl.SameState(moved, want) {
				t.Errorf("%s is moved by %v to %s, %d, not %s, %d", stateText(s), m, stateText(moved), code, stateText(want), wantCode)
			}
			if code != impl.OK {
				continue
			}
			movedJoints, jointsCode := impl.JointsOf(moved)
			if !impl.ValidState(moved) || jointsCode != impl.OK || !slices.Equal(movedJoints, joints) {
				t.Errorf("%s has the joints %v, but %s has %v", stateText(s), joints, stateText(moved), movedJoints)
			}
			if _, movedCode := impl.NormalState(moved); impl.AlikeStates(s, moved) != (normalCode == impl.OK && movedCode == impl.OK) {
				t.Errorf("%s and %s are alike: %v", stateText(s), stateText(moved), impl.AlikeStates(s, moved))
			}
			checkMovedBack(t, s, moved, m)
		}
	}
	checkCounts(t, counts, map[int64]int{impl.OK: 500, impl.ErrRange: 50})
}

func checkMovedBack(t *testing.T, s, moved impl.State, m impl.Motion) {
	t.Helper()
	inverse, ok := impl.Invert(m)
	if !ok {
		return
	}
	if back, code := impl.MoveState(moved, inverse); code != impl.OK || !impl.SameState(back, s) {
		t.Errorf("%s is moved there and back to %s, %d", stateText(s), stateText(back), code)
	}
}

func TestPromise20StatesTurnedOverAreAlike(t *testing.T) {
	t.Parallel()
	mirror, _ := impl.Reflection(mustLine(t, "4@0"))
	for _, s := range someStates(t) {
		over, code := impl.TurnOver(s)
		want, wantCode := moveStateOracle(s, mirror)
		if code != impl.OK || wantCode != impl.OK || !impl.SameState(over, want) || !impl.ValidState(over) {
			t.Fatalf("%s is turned over to %s, %d, not %s, %d", stateText(s), stateText(over), code, stateText(want), wantCode)
		}
		back, code := impl.TurnOver(over)
		if code != impl.OK || !impl.SameState(back, s) {
			t.Errorf("%s is turned over twice to %s, %d", stateText(s), stateText(back), code)
		}
		joints, _ := impl.JointsOf(s)
		overJoints, _ := impl.JointsOf(over)
		if !slices.Equal(joints, overJoints) {
			t.Errorf("the joints of %s are %v, but from behind they are %v", stateText(s), joints, overJoints)
		}
		_, normalCode := impl.NormalState(s)
		if impl.AlikeStates(s, over) != (normalCode == impl.OK) || impl.SameState(s, over) {
			t.Errorf("%s and %s are alike: %v", stateText(s), stateText(over), impl.AlikeStates(s, over))
		}
		for i := range over.Order {
			over.Order[i] = -over.Order[i]
		}
		if len(s.Faces) > 1 && impl.AlikeStates(s, over) {
			t.Errorf("%s is alike to the same faces with the opposite order", stateText(s))
		}
	}
}

func TestPromise20LayersAreExact(t *testing.T) {
	t.Parallel()
	counts := map[int64]int{}
	for _, s := range someStates(t) {
		facts, _ := stateOracle(s)
		over, _ := impl.TurnOver(s)
		for i, place := range facts.places {
			ring := facts.rings[i]
			inner := ring[0].sum(ring[1]).sum(ring[2].scaled(exactParts(2, 0, 0))).scaled(exactParts(1, 0, 2))
			points := []impl.Point{place[0]}
			for _, v := range []exactPoint{inner, ring[0].sum(ring[1]).scaled(exactParts(1, 0, 1)), ring[1].sum(ring[2]).difference(ring[0])} {
				if p, ok := v.valid(); ok {
					points = append(points, p)
				}
			}
			for _, p := range points[:min(len(points), 2+i%3)] {
				counts[checkLayers(t, s, over, facts, p)]++
			}
		}
	}
	checkCounts(t, counts, map[int64]int{impl.OK: 1000, impl.ErrOrder: 50})
}

// checkLayers compares the layers over a point with the oracle, and with those seen from behind.
func checkLayers(t *testing.T, s, over impl.State, facts stateFacts, p impl.Point) int64 {
	t.Helper()
	want, wantCode := layersOracle(s, facts, p)
	got, code := impl.LayersAt(s, p)
	if !slices.Equal(got, want) || code != wantCode {
		t.Errorf("the layers of %s at %v are %v, %d, not %v, %d", stateText(s), p, got, code, want, wantCode)
	}
	p.X, _ = impl.SubNum(impl.Num{}, p.X)
	behind, behindCode := impl.LayersAt(over, p)
	slices.Reverse(behind)
	if !slices.Equal(behind, got) || behindCode != code {
		t.Errorf("the layers of %s at %v are %v, %d, but from behind %v, %d", stateText(s), p, got, code, behind, behindCode)
	}
	return code
}
