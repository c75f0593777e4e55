package tests

import (
	"slices"
	"sync"
	"testing"

	"loop.example/g00857/impl"
)

// frame is a motion without limits: the place of 0, 0, and the vectors to which 1, 0 and 0, 1 are turned.
type frame struct {
	origin exactPoint
	right  exactPoint
	up     exactPoint
}

func frameBy(place func(v exactPoint) exactPoint) frame {
	origin := place(exactPointOf(impl.Point{}))
	return frame{origin, place(vectorOracle(0)).difference(origin), place(vectorOracle(4)).difference(origin)}
}

func frameOf(m impl.Motion) frame {
	return frameBy(func(v exactPoint) exactPoint { return exactMove(m, v) })
}

func (f frame) place(v exactPoint) exactPoint {
	return f.origin.sum(f.right.scaled(v.x)).sum(f.up.scaled(v.y))
}

// source returns what the frame moves to v.
func (f frame) source(v exactPoint) exactPoint {
	way := v.difference(f.origin)
	return exactPoint{way.dot(f.right), way.dot(f.up)}
}

func (f frame) equals(g frame) bool {
	return f.origin.equals(g.origin) && f.right.equals(g.right) && f.up.equals(g.up)
}

// before returns the frame that is equal to f and then g.
func (f frame) before(g frame) frame {
	return frameBy(func(v exactPoint) exactPoint { return g.place(f.place(v)) })
}

// mirrorOracle reflects v in the line through p and q.
func mirrorOracle(p, q, v exactPoint) exactPoint {
	way := q.difference(p)
	foot := p.sum(way.scaled(v.difference(p).dot(way).quotient(way.dot(way))))
	return foot.sum(foot).difference(v)
}

// crossed returns the frame of the other face of a joint on the line through p and q.
func (f frame) crossed(p, q impl.Point) frame {
	start, end := exactPointOf(p), exactPointOf(q)
	return frameBy(func(v exactPoint) exactPoint { return f.place(mirrorOracle(start, end, v)) })
}

// foldingMap is what the oracle finds out about the folding of a pattern.
type foldingMap struct {
	faces  [][]impl.Point
	joints []impl.Joint
	tree   []int64
	ways   [][]int64 // the least of the shortest ways from face 0
	frames []frame
	bad    int64 // the first bad joint, or -1
}

// foldingOracle folds a pattern whose faces are as they should be. A breadth-first search reaches the faces
// in the order of the lengths of their ways, and of the ways themselves if these are equal.
func foldingOracle(t *testing.T, p impl.Pattern) foldingMap {
	t.Helper()
	faces, facesCode := impl.FacesOf(p)
	joints, jointsCode := impl.NeighboursOf(p)
	if facesCode != impl.OK || jointsCode != impl.OK {
		t.Fatalf("%s has no faces", patternText(p))
	}
	m := foldingMap{faces: faces, joints: joints, bad: -1}
	for b := range faces {
		way := waysOracle(len(faces), joints, int64(b))[0]
		m.ways = append(m.ways, way)
		m.frames = append(m.frames, wayOfJoints(joints, way))
	}
	order := slices.Clone(m.ways)
	slices.SortFunc(order, func(a, b []int64) int {
		if len(a) != len(b) {
			return len(a) - len(b)
		}
		return slices.Compare(a, b)
	})
	for _, way := range order[1:] {
		m.tree = append(m.tree, way[len(way)-1])
	}
	for i, j := range joints {
		if !m.frames[j.A].crossed(j.P, j.Q).equals(m.frames[j.B]) {
			m.bad = int64(i)
			break
		}
	}
	return m
}

// wayOfJoints returns the frame that results if joints are crossed one after the other.
func wayOfJoints(joints []impl.Joint, way []int64) frame {
	f := frameOf(impl.Motion{})
	for _, i := range way {
		f = f.crossed(joints[i].P, joints[i].Q)
	}
	return f
}

// motions returns the valid motions of all faces, or the code that there are none.
func (m foldingMap) motions() ([]impl.Motion, int64) {
	if m.bad >= 0 {
		return nil, impl.ErrNotFlat
	}
	var list []impl.Motion
	for _, f := range m.frames {
		motion, ok := motionOracle(f.place)
		if !ok {
			return nil, impl.ErrRange
		}
		list = append(list, motion)
	}
	return list, impl.OK
}

// points returns the places of the points of the pattern, which all faces at a point must agree on.
func (m foldingMap) points(t *testing.T, p impl.Pattern) ([]impl.Point, int64) {
	t.Helper()
	if _, code := m.motions(); code != impl.OK {
		return nil, code
	}
	var places []exactPoint
	for _, q := range p.Points {
		var found []exactPoint
		for i, face := range m.faces {
			if inOracle(exactRing(face), exactPointOf(q)) >= 0 {
				found = append(found, m.frames[i].place(exactPointOf(q)))
			}
		}
		if len(found) == 0 || len(slices.CompactFunc(found, exactPoint.equals)) != 1 {
			t.Fatalf("the point %v of %s has the places %v", q, patternText(p), found)
		}
		places = append(places, found[0])
	}
	points, ok := validRing(places)
	if !ok {
		return nil, impl.ErrRange
	}
	return points, impl.OK
}

// faceBehind returns the face to which a way leads from face 0, and whether it is one.
func faceBehind(joints []impl.Joint, way []int64) (int64, bool) {
	face := int64(0)
	for _, i := range way {
		switch face {
		case joints[i].A:
			face = joints[i].B
		case joints[i].B:
			face = joints[i].A
		default:
			return 0, false
		}
	}
	return face, true
}

// randomWay returns a way of some joints from face 0, or the empty way if there are no joints.
func randomWay(state *uint64, joints []impl.Joint, length int64) []int64 {
	way, face := []int64{}, int64(0)
	for range length {
		var next []int64
		for i, j := range joints {
			if j.A == face || j.B == face {
				next = append(next, int64(i))
			}
		}
		if len(next) == 0 {
			break
		}
		i := next[nextRandom(state, uint64(len(next)))]
		way, face = append(way, i), joints[i].A+joints[i].B-face
	}
	return way
}

// roundWay returns the way from face 0 to an interior point, around it, and back.
func roundWay(t *testing.T, p impl.Pattern, point int64) []int64 {
	t.Helper()
	faces, code := impl.FacesAround(p, point)
	there, thereCode := impl.PathOfFaces(p, 0, faces[0])
	joints, _ := impl.NeighboursOf(p)
	if code != impl.OK || thereCode != impl.OK {
		t.Fatalf("there is no way around the point %d of %s", point, patternText(p))
	}
	way := slices.Clone(there)
	for i, face := range faces {
		next := faces[(i+1)%len(faces)]
		way = append(way, int64(slices.IndexFunc(joints, func(j impl.Joint) bool {
			isBetween := j.A == min(face, next) && j.B == max(face, next)
			return isBetween && (j.P == p.Points[point] || j.Q == p.Points[point])
		})))
	}
	slices.Reverse(there)
	return append(way, there...)
}

// leaf is a face of paper that is folded in the tests: where it is on the paper, and its motion.
type leaf struct {
	ring []exactPoint
	move frame
}

func (l leaf) places() []exactPoint {
	var list []exactPoint
	for _, v := range l.ring {
		list = append(list, l.move.place(v))
	}
	return list
}

// mirror reflects v in the line.
func (l exactLine) mirror(v exactPoint) exactPoint {
	once := l.normal.scaled(l.height(v).quotient(l.normal.dot(l.normal)))
	return v.difference(once).difference(once)
}

// foldLeaves reflects everything on the side 1 of a line in the plane.
func foldLeaves(leaves []leaf, cut exactLine) []leaf {
	var list []leaf
	for _, l := range leaves {
		for _, side := range []int64{1, -1} {
			var ring []exactPoint
			for _, v := range halfOracle(hullOracle(l.places()), cut, side) {
				ring = append(ring, l.move.source(v))
			}
			move := l.move
			if side == 1 {
				move = frameBy(func(v exactPoint) exactPoint { return cut.mirror(l.move.place(v)) })
			}
			if len(ring) > 0 {
				list = append(list, leaf{hullOracle(ring), move})
			}
		}
	}
	return list
}

// patternOfLeaves returns the pattern whose faces are those leaves, with random kinds.
func patternOfLeaves(state *uint64, paper []exactPoint, leaves []leaf) (impl.Pattern, bool) {
	var folds []fold
	for _, l := range leaves {
		list, ok := validRing(l.ring)
		if !ok || !validPolygonOracle(list) {
			return impl.Pattern{}, false
		}
		for i, p := range list {
			f := fold{p, list[(i+1)%len(list)], impl.KdMountain + nextRandom(state, 3)}
			if onSideOracle(paper, f.stroke()) {
				f.kind = impl.KdBorder
			}
			if !slices.ContainsFunc(folds, func(other fold) bool { return other.isAt(f.p) && other.isAt(f.q) }) {
				folds = append(folds, f)
			}
		}
	}
	p := patternOf(folds)
	return p, len(p.Points) <= impl.MaxPoints && len(p.Creases) <= impl.MaxCreases && len(leaves) <= impl.MaxFaces
}

// paperModel is paper that has been folded along some lines.
type paperModel struct {
	paper   []exactPoint
	leaves  []leaf
	pattern impl.Pattern
}

// randomModel folds a square or a part of it along random lines through places of corners or between them.
func randomModel(state *uint64) paperModel {
	paper := hullOracle(randomSquare(state))
	if nextRandom(state, 3) == 0 {
		corner := exactLine{normalOracle(nextRandom(state, 8)), exactParts(0, 0, 0)}
		corner.off = corner.normal.dot(paper[0].sum(paper[2]).scaled(exactParts(1, 0, 1)))
		paper = halfOracle(paper, corner, 1)
	}
	model := paperModel{paper: paper, leaves: []leaf{{paper, frameOf(impl.Motion{})}}}
	model.pattern, _ = patternOfLeaves(state, paper, model.leaves)
	for range 1 + nextRandom(state, 6) {
		var corners []exactPoint
		for _, l := range model.leaves {
			corners = append(corners, l.places()...)
		}
		pick := func() exactPoint { return corners[nextRandom(state, uint64(len(corners)))] }
		cut := exactLine{normal: normalOracle(nextRandom(state, 8))}
		cut.off = cut.normal.dot(pick().sum(pick()).scaled(exactParts(1, 0, 1)))
		leaves := foldLeaves(model.leaves, cut)
		if pattern, ok := patternOfLeaves(state, paper, leaves); ok && impl.ValidPattern(pattern) {
			model.leaves, model.pattern = leaves, pattern
		}
	}
	return model
}

// someModels are folded papers, which are not to be changed.
var someModels = sync.OnceValue(func() []paperModel {
	var list []paperModel
	state := uint64(83)
	for len(list) < 70 {
		if model := randomModel(&state); len(model.leaves) > 1 || len(list) < 3 {
			list = append(list, model)
		}
	}
	return list
})

// foldingPatterns are patterns with and without a folding map, some of which have no convex faces.
func foldingPatterns(t *testing.T) []impl.Pattern {
	t.Helper()
	list := slices.Clone(somePatterns(t))
	for _, model := range someModels() {
		list = append(list, model.pattern)
	}
	for _, name := range impl.LibraryNames() {
		p, _ := impl.LibraryPattern(name)
		list = append(list, p)
	}
	for i, c := range someCentred() {
		if i%50 == 0 {
			list = append(list, c.Pattern)
		}
	}
	return list
}
