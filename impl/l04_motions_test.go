package impl

import "testing"

// linearMotions are the motions that keep the origin.
func linearMotions() []Motion {
	var list []Motion
	for turn := range int64(eighthTurns) {
		list = append(list, Motion{Turn: turn}, Motion{Turn: turn, Flip: true})
	}
	return list
}

// extremeMotions have all turns and shifts with the greatest parts.
func extremeMotions() []Motion {
	var list []Motion
	for i, shift := range extremePoints() {
		for _, m := range linearMotions()[i%2*8:][:8] {
			m.X, m.Y = shift[0].Num, shift[1].Num
			list = append(list, m)
		}
	}
	return list
}

func checkVectorSize(t *testing.T, v vector) {
	t.Helper()
	checkSize(t, v[0])
	checkSize(t, v[1])
}

func TestNumbersOfMotionsStaySmall(t *testing.T) {
	motions, points := extremeMotions(), extremePoints()
	for i, m := range motions {
		place, source := matrixOf(m).place, matrixOf(m).source
		for j, p := range points {
			checkVectorSize(t, place(p))
			checkVectorSize(t, source(p))
			for dir := range int64(LineDirections) {
				foot := place(directedLineAt(p, dir).foot())
				checkVectorSize(t, foot)
				checkSize(t, directedLineAt(foot, m.direction(dir)%LineDirections).off)
			}
			next := matrixOf(motions[(i*5+j*11+3)%len(motions)])
			both := matrixBy(followedBy(place, next.place))
			checkVectorSize(t, both.shift)
			checkVectorSize(t, next.place(place(unitVector(northEast))))
		}
	}
}

// Matrices are compared with ==, so their numbers must be in lowest terms on every way to them.
func TestMatricesOfMotionsAreUnique(t *testing.T) {
	for _, m := range append(extremeMotions(), linearMotions()...) {
		matrix := matrixOf(m)
		for _, again := range []struct {
			way  string
			then any
		}{
			{"its places", matrixBy(matrix.place)},
			{"no motion behind it", matrixBy(followedBy(matrix.place, matrixOf(Identity()).place))},
			{"no motion before it", matrixBy(followedBy(matrixOf(Identity()).place, matrix.place))},
			{"two inversions", matrixBy(matrixBy(matrix.source).source)},
		} {
			if again.then != matrix {
				t.Errorf("the matrix of %v is %v, but by %s it is %v", m, matrix, again.way, again.then)
			}
		}
		if back, ok := matrix.motion(); !ok || back != m {
			t.Errorf("the motion with the matrix of %v is %v, %v", m, back, ok)
		}
	}
}
