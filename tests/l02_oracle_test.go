package tests

import (
	"regexp"
	"testing"

	"loop.example/g00857/impl"
)

// exactPoint is a point or a vector without limits, to check results in another way than the program
// computes them.
type exactPoint struct {
	x exact
	y exact
}

func exactPointOf(p impl.Point) exactPoint {
	return exactPoint{exactOf(p.X), exactOf(p.Y)}
}

func (x exact) difference(y exact) exact { return x.sum(y.negative()) }

func (x exact) quotient(y exact) exact { return x.product(y.inverse()) }

func (x exact) equals(y exact) bool { return x.a.Cmp(y.a) == 0 && x.b.Cmp(y.b) == 0 }

func (x exact) isZero() bool { return x.a.Sign() == 0 && x.b.Sign() == 0 }

func (v exactPoint) sum(w exactPoint) exactPoint {
	return exactPoint{v.x.sum(w.x), v.y.sum(w.y)}
}

func (v exactPoint) difference(w exactPoint) exactPoint {
	return exactPoint{v.x.difference(w.x), v.y.difference(w.y)}
}

func (v exactPoint) scaled(factor exact) exactPoint {
	return exactPoint{v.x.product(factor), v.y.product(factor)}
}

func (v exactPoint) dot(w exactPoint) exact {
	return v.x.product(w.x).sum(v.y.product(w.y))
}

func (v exactPoint) cross(w exactPoint) exact {
	return v.x.product(w.y).difference(v.y.product(w.x))
}

func (v exactPoint) turnedLeft() exactPoint { return exactPoint{v.y.negative(), v.x} }

func (v exactPoint) turnedRight() exactPoint { return exactPoint{v.y, v.x.negative()} }

func (v exactPoint) equals(w exactPoint) bool { return v.x.equals(w.x) && v.y.equals(w.y) }

func (v exactPoint) valid() (impl.Point, bool) {
	x, xOk := v.x.valid()
	y, yOk := v.y.valid()
	if !xOk || !yOk {
		return impl.Point{}, false
	}
	return impl.Point{X: x, Y: y}, true
}

// vectorOracle returns the vector of a direction by quarter turns of the first four ones.
func vectorOracle(d int64) exactPoint {
	zero, one, slope := exactParts(0, 0, 0), exactParts(1, 0, 0), exactParts(-1, 1, 0)
	v := []exactPoint{{one, zero}, {one, slope}, {one, one}, {slope, one}}[d%4]
	for range d / 4 {
		v = v.turnedLeft()
	}
	return v
}

// directionOracle turns the way from p to q into the first quarter and then compares its slope.
func directionOracle(p, q impl.Point) int64 {
	return wayOracle(exactPointOf(q).difference(exactPointOf(p)))
}

func wayOracle(way exactPoint) int64 {
	if way.x.isZero() && way.y.isZero() {
		return -1
	}
	turns := int64(0)
	for way.x.sign() <= 0 || way.y.sign() < 0 {
		way = way.turnedRight()
		turns++
	}
	slope := exactParts(-1, 1, 0)
	switch {
	case way.y.isZero():
		return 4 * turns
	case way.y.equals(way.x.product(slope)):
		return 4*turns + 1
	case way.y.equals(way.x):
		return 4*turns + 2
	case way.x.equals(way.y.product(slope)):
		return 4*turns + 3
	}
	return -1
}

func normalOracle(dir int64) exactPoint { return vectorOracle(dir).turnedLeft() }

func lineOracle(p exactPoint, dir int64) (impl.Line, bool) {
	off, ok := normalOracle(dir).dot(p).valid()
	if !ok {
		return impl.Line{}, false
	}
	return impl.Line{Dir: dir, Off: off}, true
}

func sideOracle(l impl.Line, p exactPoint) int64 {
	return normalOracle(l.Dir).dot(p).difference(exactOf(l.Off)).sign()
}

// footOracle returns the point of a line that is nearest to the origin.
func footOracle(l impl.Line) exactPoint {
	n := normalOracle(l.Dir)
	return n.scaled(exactOf(l.Off).quotient(n.dot(n)))
}

// meetOracle walks along the line a to the line b.
func meetOracle(a, b impl.Line) exactPoint {
	foot, along, n := footOracle(a), vectorOracle(a.Dir), normalOracle(b.Dir)
	rest := exactOf(b.Off).difference(n.dot(foot))
	return foot.sum(along.scaled(rest.quotient(n.dot(along))))
}

// reflectOracle reflects a point by the matrix of the reflection in the direction of the line.
func reflectOracle(l impl.Line, p exactPoint) exactPoint {
	half := exactParts(0, 1, 1)
	zero, one := exactParts(0, 0, 0), exactParts(1, 0, 0)
	cosines := []exact{one, half, zero, half.negative(), one.negative(), half.negative(), zero, half}
	c, s := cosines[l.Dir], cosines[(l.Dir+6)%8]
	foot := footOracle(l)
	v := p.difference(foot)
	return foot.sum(exactPoint{
		c.product(v.x).sum(s.product(v.y)),
		s.product(v.x).difference(c.product(v.y)),
	})
}

var (
	pointForm = regexp.MustCompile(`^\(([^,]*),([^,]*)\)$`)
	lineForm  = regexp.MustCompile(`^([0-7])@([^@]*)$`)
)

func pointTextOracle(s string) (impl.Point, bool) {
	match := pointForm.FindStringSubmatch(s)
	if match == nil {
		return impl.Point{}, false
	}
	x, xOk := textOracle(match[1])
	y, yOk := textOracle(match[2])
	if !xOk || !yOk {
		return impl.Point{}, false
	}
	return impl.Point{X: x, Y: y}, true
}

func lineTextOracle(s string) (impl.Line, bool) {
	match := lineForm.FindStringSubmatch(s)
	if match == nil {
		return impl.Line{}, false
	}
	off, ok := textOracle(match[2])
	if !ok {
		return impl.Line{}, false
	}
	return impl.Line{Dir: int64(match[1][0] - '0'), Off: off}, true
}

func mustPoint(t *testing.T, s string) impl.Point {
	t.Helper()
	p, ok := pointTextOracle(s)
	if !ok {
		t.Fatalf("%q is no point", s)
	}
	return p
}

func mustLine(t *testing.T, s string) impl.Line {
	t.Helper()
	l, ok := lineTextOracle(s)
	if !ok {
		t.Fatalf("%q is no line", s)
	}
	return l
}

// somePoints are valid points: small ones, corners of the whole plane, and a spread of others.
func somePoints() []impl.Point {
	list := []impl.Point{}
	for x := int64(-1); x <= 2; x++ {
		for y := int64(-1); y <= 1; y++ {
			list = append(list, impl.Point{X: impl.Num{A: x}, Y: impl.Num{A: y}})
		}
	}
	nums := someNums()
	for i, x := range nums {
		list = append(list, impl.Point{X: x, Y: nums[(i*i+3*i+7)%len(nums)]})
		if i%4 == 0 {
			list = append(list, impl.Point{X: x, Y: x}, impl.Point{X: x}, impl.Point{Y: x})
		}
	}
	return list
}

// someLines are valid lines of all directions.
func someLines() []impl.Line {
	offs := []impl.Num{
		{}, {A: 1}, {A: -2}, {B: 1}, {A: -1, B: 1}, {A: 1, B: 3, K: 2}, {A: 1, K: 10}, {A: 3, B: -5, K: 10}, {A: 4, B: -2},
		{A: 131072}, {A: -131072}, {A: 131072, B: -131072}, {A: -131071, B: 131071, K: 10}, {A: 65536, B: 1}, {A: 114243, B: -80782},
	}
	var list []impl.Line
	for dir := range int64(impl.LineDirections) {
		for _, off := range offs {
			list = append(list, impl.Line{Dir: dir, Off: off})
		}
	}
	return list
}

// invalidPoints are points with one invalid coordinate or two.
func invalidPoints() []impl.Point {
	var list []impl.Point
	for _, bad := range invalidNums() {
		list = append(list, impl.Point{X: bad}, impl.Point{Y: bad}, impl.Point{X: bad, Y: bad}, impl.Point{X: impl.Num{A: 1}, Y: bad})
	}
	return list
}

// invalidLines are lines whose Dir or Off or both are invalid.
func invalidLines() []impl.Line {
	var list []impl.Line
	for _, bad := range invalidNums() {
		list = append(list, impl.Line{Off: bad}, impl.Line{Dir: 7, Off: bad}, impl.Line{Dir: 8, Off: bad})
	}
	for _, dir := range wildDirections() {
		if dir < 0 || dir >= impl.LineDirections {
			list = append(list, impl.Line{Dir: dir}, impl.Line{Dir: dir, Off: impl.Num{A: 1, B: 1, K: 1}})
		}
	}
	return list
}

// wildDirections are all directions and numbers near to and far outside of them.
func wildDirections() []int64 {
	list := extremes()
	for d := int64(-40); d <= 40; d++ {
		list = append(list, d)
	}
	return append(list, 1<<32, 1<<32+1, -1<<32+1, 1<<62+1, 256, 257)
}
