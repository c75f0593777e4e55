package tests

import (
	"slices"
	"testing"

	"loop.example/g00857/impl"
)

// facesCodeOracle returns the first error of chapter 7. All faces of a connected pattern are convex
// exactly if no two neighbouring creases at an interior point enclose more than half a turn; and by
// Euler's formula, their number follows from the numbers of points and creases.
func facesCodeOracle(p impl.Pattern) int64 {
	border, ok := patternOracle(p)
	if !ok {
		return impl.ErrInvalid
	}
	for k := range int64(len(p.Points)) {
		_, dirs := spokesOracle(p, k)
		for i, d := range dirs {
			gap := (dirs[(i+1)%len(dirs)] - d + 16) % 16
			if !slices.Contains(border.ring, k) && (gap > 8 || gap == 0) {
				return impl.ErrGeometry
			}
		}
	}
	if len(p.Creases)-len(p.Points)+1 > impl.MaxFaces {
		return impl.ErrFull
	}
	return impl.OK
}

// isBeside reports whether a side of one of two convex rings separates them. A ring may be a segment.
func isBeside(a, b []exactPoint) bool {
	for _, pair := range [][2][]exactPoint{{a, b}, {b, a}} {
		for i, corner := range pair[0] {
			next := pair[0][(i+1)%len(pair[0])]
			if !slices.ContainsFunc(pair[1], func(v exactPoint) bool { return turnOracle(corner, next, v) > 0 }) {
				return true
			}
		}
	}
	return false
}

// isCovered reports whether creases cover a segment as a whole. They have no common points inside.
func isCovered(side stroke, strokes []stroke) bool {
	rest := side.way().dot(side.way())
	for _, s := range strokes {
		if side.contains(s.p) && side.contains(s.q) {
			length := s.way().dot(side.way())
			if length.sign() < 0 {
				length = length.negative()
			}
			rest = rest.difference(length)
		}
	}
	return rest.isZero()
}

func middleOf(s stroke) exactPoint {
	return s.p.sum(s.q).scaled(exactParts(1, 0, 1))
}

// jointsOracle returns the joints between faces: a crease belongs to those that have its middle on
// their sides. It must be two for all creases except those of the border.
func jointsOracle(t *testing.T, p impl.Pattern, faces [][]impl.Point) []impl.Joint {
	t.Helper()
	var list []impl.Joint
	for i, s := range strokesOf(p) {
		var beside []int64
		for k, face := range faces {
			if inOracle(exactRing(face), middleOf(s)) == 0 {
				beside = append(beside, int64(k))
			}
		}
		if want := min(2, s.kind); int64(len(beside)) != want {
			t.Fatalf("the crease %d of %s is between the faces %v", i, patternText(p), beside)
		}
		if s.kind != impl.KdBorder {
			c := p.Creases[i]
			list = append(list, impl.Joint{A: beside[0], B: beside[1], P: p.Points[c.From], Q: p.Points[c.To], Kind: c.Kind})
		}
	}
	slices.SortFunc(list, func(a, b impl.Joint) int {
		if a.A != b.A || a.B != b.B {
			return int(100*(a.A-b.A) + a.B - b.B)
		}
		return compareExact(exactPointOf(a.P), exactPointOf(b.P))
	})
	return list
}

// aroundOracle returns, for each crease at a point, the one of its two faces that has a corner to the
// left of the way from the point.
func aroundOracle(p impl.Pattern, k int64, faces [][]impl.Point, joints []impl.Joint) []int64 {
	var list []int64
	creases, _ := spokesOracle(p, k)
	for _, crease := range creases {
		from, to := p.Points[p.Creases[crease].From], p.Points[p.Creases[crease].To]
		at := slices.IndexFunc(joints, func(j impl.Joint) bool { return j.P == from && j.Q == to })
		if from != p.Points[k] {
			from, to = to, from
		}
		left := func(corner impl.Point) bool {
			return turnOracle(exactPointOf(from), exactPointOf(to), exactPointOf(corner)) > 0
		}
		if slices.ContainsFunc(faces[joints[at].A], left) {
			list = append(list, joints[at].A)
		} else {
			list = append(list, joints[at].B)
		}
	}
	return list
}

// hasOddPoint reports whether an odd number of creases meets at an interior point. There is a
// colouring exactly if there is no such point.
func hasOddPoint(t *testing.T, p impl.Pattern) bool {
	t.Helper()
	border, ok := patternOracle(p)
	if !ok {
		t.Fatalf("%s is not valid", patternText(p))
	}
	for k := range int64(len(p.Points)) {
		if creases, _ := spokesOracle(p, k); len(creases)%2 == 1 && !slices.Contains(border.ring, k) {
			return true
		}
	}
	return false
}

// waysOracle returns the least of the shortest ways from each face to a face. The least ways of one
// more joint are found from all those of one joint less.
func waysOracle(faces int, joints []impl.Joint, end int64) [][]int64 {
	ways := make([][]int64, faces)
	ways[end] = []int64{}
	for range faces {
		longer := slices.Clone(ways)
		for i, j := range joints {
			for _, ends := range [][2]int64{{j.A, j.B}, {j.B, j.A}} {
				from, to := ends[0], ends[1]
				if ways[to] == nil || ways[from] != nil {
					continue
				}
				way := append([]int64{int64(i)}, ways[to]...)
				if longer[from] == nil || slices.Compare(way, longer[from]) < 0 {
					longer[from] = way
				}
			}
		}
		ways = longer
	}
	return ways
}
