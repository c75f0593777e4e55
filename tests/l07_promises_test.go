package tests

import (
	"math"
	"slices"
	"testing"

	"loop.example/g00857/impl"
)

// Promise 1 for chapter 7: every function returns, repeats its result, changes no argument, and keeps
// no memory of one.

// markedJoint overwrites results.
var markedJoint = impl.Joint{A: -99, B: -99, P: markedPoint, Q: markedPoint, Kind: -99}

func facesResults(p impl.Pattern, a, b int64, q impl.Point) map[string]func() result {
	numbers := func(call func() ([]int64, int64)) func() result {
		return func() result {
			list, code := call()
			return resultOf([]shownList{listOf(list, -99)}, code)
		}
	}
	return map[string]func() result{
		"FacesOf": func() result {
			faces, code := impl.FacesOf(p)
			return resultOf(rowsOf(faces, markedPoint), code)
		},
		"NeighboursOf": func() result {
			joints, code := impl.NeighboursOf(p)
			return resultOf([]shownList{listOf(joints, markedJoint)}, code)
		},
		"FacesAround": numbers(func() ([]int64, int64) { return impl.FacesAround(p, a) }),
		"ColourFaces": numbers(func() ([]int64, int64) { return impl.ColourFaces(p) }),
		"PathOfFaces": numbers(func() ([]int64, int64) { return impl.PathOfFaces(p, a, b) }),
		"FaceAt": func() result {
			face, code := impl.FaceAt(p, q)
			return resultOf(nil, face, code)
		},
		"AreaOf": func() result {
			area, ok := impl.AreaOf(p.Points)
			return resultOf(nil, area, ok)
		},
	}
}

func checkFacesPure(t *testing.T, p impl.Pattern, a, b int64, q impl.Point) {
	t.Helper()
	argument, kept := guardPattern(p)
	for name, call := range facesResults(argument, a, b, q) {
		checkResults(t, name, patternText(p), call, kept)
	}
}

func TestPromise1FacesAreNotChangedOrShared(t *testing.T) {
	t.Parallel()
	for i, p := range somePatterns(t) {
		k := int64(i % len(p.Points))
		for _, inner := range impl.InteriorOf(p) {
			k = inner
		}
		checkFacesPure(t, p, k, 0, p.Points[k])
		checkFacesPure(t, p, 0, int64(i%5), mustPoint(t, "(1/2,1/4)"))
		for _, variant := range patternsLike(p, uint64(i))[:6] {
			checkFacesPure(t, variant, 1, k, p.Points[0])
		}
	}
	for i, list := range somePolygons(t, 40) {
		for _, variant := range append(listsLike(list)[:min(8, i+1)], list) {
			argument, kept := guard(variant, sparePoint)
			want, wantOk := impl.AreaOf(argument)
			if got, ok := impl.AreaOf(argument); got != want || ok != wantOk || !kept() {
				t.Errorf("the areas of %v are %v, %v and %v, %v, or it changes", variant, want, wantOk, got, ok)
			}
		}
	}
}

func TestPromise1FacesReturnForAllArguments(t *testing.T) {
	t.Parallel()
	nums := slices.Concat(wildNums(), invalidNums(), slices.Repeat(someNums(), 60))
	values := slices.Concat(extremes(), slices.Repeat([]int64{0, 1, 2, 3, 4, 5, 6, 7, 8, 9}, 20))
	state := uint64(43)
	anyValue := func() int64 { return values[nextRandom(&state, uint64(len(values)))] }
	anyPoint := func() impl.Point {
		return impl.Point{X: nums[nextRandom(&state, uint64(len(nums)))], Y: nums[nextRandom(&state, uint64(len(nums)))]}
	}
	for i, p := range somePatterns(t) {
		variants := append(patternsLike(p, uint64(i)+99)[:20], p)
		for _, variant := range variants {
			for name, call := range facesResults(variant, anyValue(), anyValue(), anyPoint()) {
				if first, second := call().shown(-1), call().shown(-1); first != second {
					t.Errorf("%s: the results for %s are %s and %s", name, patternText(variant), first, second)
				}
			}
		}
	}
	for _, p := range wildPatterns() {
		for _, call := range facesResults(p, math.MinInt64, math.MaxInt64, anyPoint()) {
			call()
		}
	}
}

// Promise 8: the faces cover the paper without overlap and satisfy Euler's formula; ways and colours
// of faces agree.

func TestPromise8FacesCoverThePaper(t *testing.T) {
	t.Parallel()
	counts := map[int64]int{}
	for _, p := range somePatterns(t) {
		code := facesCodeOracle(p)
		checkFaces(t, p, code)
		counts[code]++
	}
	if counts[impl.OK] < 80 || counts[impl.ErrGeometry] < 15 {
		t.Errorf("the numbers of patterns by their codes are %v", counts)
	}
}

// checkFaces checks everything about the faces of a pattern.
func checkFaces(t *testing.T, p impl.Pattern, want int64) {
	t.Helper()
	if oracle := facesCodeOracle(p); oracle != want {
		t.Fatalf("the code for %s is %d, not %d", patternText(p), oracle, want)
	}
	if want != impl.OK {
		checkFaceErrors(t, p, want)
		return
	}
	faces, code := impl.FacesOf(p)
	if code != impl.OK || len(p.Points)+len(faces)-len(p.Creases) != 1 {
		t.Fatalf("%s has %d points, %d faces and %d creases, and the code %d", patternText(p), len(p.Points), len(faces), len(p.Creases), code)
	}
	checkCover(t, p, faces)
	joints, code := impl.NeighboursOf(p)
	if want := jointsOracle(t, p, faces); code != impl.OK || !slices.Equal(joints, want) {
		t.Fatalf("the joints of %s are %v, %d, not %v", patternText(p), joints, code, want)
	}
	checkPlaces(t, p, faces)
	checkAround(t, p, faces, joints)
	checkWays(t, p, len(faces), joints)
}

// checkCover checks that the faces are convex polygons in order whose sides are creases, and that they
// make up the paper without an overlap and without a crease inside.
func checkCover(t *testing.T, p impl.Pattern, faces [][]impl.Point) {
	t.Helper()
	strokes, paper := strokesOf(p), exactRing(impl.PaperOf(p))
	rest := areaOracle(paper)
	var rings [][]exactPoint
	for i, face := range faces {
		ring := exactRing(face)
		rest = rest.difference(areaOracle(ring))
		if !validPolygonOracle(face) || i > 0 && slices.CompareFunc(rings[i-1], ring, compareExact) >= 0 {
			t.Errorf("face %d of %s is %v", i, patternText(p), face)
		}
		for j, corner := range ring {
			if side := (stroke{p: corner, q: ring[(j+1)%len(ring)]}); !isCovered(side, strokes) || inOracle(paper, corner) < 0 {
				t.Errorf("side %d of face %d of %s does not consist of creases", j, i, patternText(p))
			}
		}
		for j, other := range rings {
			if !isBeside(ring, other) {
				t.Errorf("the faces %d and %d of %s overlap", i, j, patternText(p))
			}
		}
		for j, s := range strokes {
			if !isBeside(ring, []exactPoint{s.p, s.q}) {
				t.Errorf("the crease %d of %s runs through the face %d", j, patternText(p), i)
			}
		}
		rings = append(rings, ring)
	}
	if !rest.isZero() {
		t.Errorf("the faces of %s do not have the area of the paper", patternText(p))
	}
}

// checkPlaces looks for points inside of faces, on creases, and beside the paper.
func checkPlaces(t *testing.T, p impl.Pattern, faces [][]impl.Point) {
	t.Helper()
	half := exactParts(1, 0, 1)
	var places []exactPoint
	for _, face := range faces {
		ring := exactRing(face)
		places = append(places, ring[0].sum(ring[1].sum(ring[2]).scaled(half)).scaled(half))
	}
	for _, s := range strokesOf(p) {
		places = append(places, s.p, middleOf(s), s.q.sum(s.way()))
	}
	for _, place := range places {
		q, ok := place.valid()
		if !ok {
			continue
		}
		want := slices.IndexFunc(faces, func(face []impl.Point) bool { return inOracle(exactRing(face), place) == 1 })
		got, code := impl.FaceAt(p, q)
		if want >= 0 && (got != int64(want) || code != impl.OK) || want < 0 && (got != 0 || code != impl.ErrNotFound) {
			t.Errorf("the face at %v of %s is %d, %d, not %d", q, patternText(p), got, code, want)
		}
	}
}

func checkAround(t *testing.T, p impl.Pattern, faces [][]impl.Point, joints []impl.Joint) {
	t.Helper()
	border := impl.BorderOf(p)
	for k := range int64(len(p.Points)) {
		got, code := impl.FacesAround(p, k)
		if slices.Contains(border, k) {
			if len(got) != 0 || code != impl.ErrState {
				t.Errorf("the faces around %d of %s are %v, %d", k, patternText(p), got, code)
			}
			continue
		}
		if want := aroundOracle(p, k, faces, joints); code != impl.OK || !slices.Equal(got, want) {
			t.Errorf("the faces around %d of %s are %v, %d, not %v", k, patternText(p), got, code, want)
		}
	}
	if got, code := impl.FacesAround(p, int64(len(p.Points))); len(got) != 0 || code != impl.ErrRange {
		t.Errorf("the faces around a point that %s does not have are %v, %d", patternText(p), got, code)
	}
}

// checkWays checks the colours and all ways, which must have an even number of joints exactly if they
// lead to a face of the same colour.
func checkWays(t *testing.T, p impl.Pattern, faces int, joints []impl.Joint) {
	t.Helper()
	colours, code := impl.ColourFaces(p)
	want := int64(impl.OK)
	if hasOddPoint(t, p) {
		want = impl.ErrNotFlat
	}
	if code != want || code == impl.OK && len(colours) != faces || code != impl.OK && len(colours) != 0 {
		t.Fatalf("the colours of %s are %v, %d, not %d", patternText(p), colours, code, want)
	}
	for i, j := range joints {
		if code == impl.OK && (colours[0] != 0 || colours[j.A]+colours[j.B] != 1 || colours[j.A]*colours[j.B] != 0) {
			t.Errorf("the faces of joint %d of %s have the colours %d and %d", i, patternText(p), colours[j.A], colours[j.B])
		}
	}
	for b := range faces {
		for a, way := range waysOracle(faces, joints, int64(b)) {
			got, wayCode := impl.PathOfFaces(p, int64(a), int64(b))
			if wayCode != impl.OK || !slices.Equal(got, way) {
				t.Errorf("the way from %d to %d of %s is %v, %d, not %v", a, b, patternText(p), got, wayCode, way)
			}
			if code == impl.OK && (len(got)%2 == 0) != (colours[a] == colours[b]) {
				t.Errorf("the way from %d to %d of %s is %v, and the colours are %v", a, b, patternText(p), got, colours)
			}
		}
	}
	for _, ends := range [][2]int64{{0, int64(faces)}, {int64(faces), 0}, {-1, -1}} {
		if got, code := impl.PathOfFaces(p, ends[0], ends[1]); len(got) != 0 || code != impl.ErrRange {
			t.Errorf("the way from %d to %d of %s is %v, %d", ends[0], ends[1], patternText(p), got, code)
		}
	}
}

func TestPromise8AreasAreExact(t *testing.T) {
	counts := map[bool]int{}
	for _, list := range somePolygons(t, 150) {
		want, wantOk := areaNumOracle(list)
		if got, ok := impl.AreaOf(list); got != want || ok != wantOk {
			t.Errorf("the area of %v is %v, %v, not %v, %v", list, got, ok, want, wantOk)
		}
		counts[wantOk]++
	}
	if counts[true] < 50 || counts[false] < 5 {
		t.Errorf("the numbers of polygons with and without an area are %v", counts)
	}
	for _, p := range somePatterns(t) {
		faces, code := impl.FacesOf(p)
		sum, ok := impl.AreaOf(impl.PaperOf(p))
		for _, face := range faces {
			area, areaOk := impl.AreaOf(face)
			rest, restOk := impl.SubNum(sum, area)
			sum, ok = rest, ok && areaOk && restOk
		}
		if code == impl.OK && ok && sum != (impl.Num{}) {
			t.Errorf("the areas of the faces of %s leave %v of the paper", patternText(p), sum)
		}
	}
}
