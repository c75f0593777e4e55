package tests

import (
	"fmt"
	"regexp"
	"slices"
	"strconv"
	"strings"
	"testing"

	"loop.example/g00857/impl"
)

// patternFormOracle returns the text form of a valid pattern.
func patternFormOracle(p impl.Pattern) string {
	text := ""
	for _, q := range p.Points {
		text += " (" + impl.NumText(q.X) + "," + impl.NumText(q.Y) + ")"
	}
	text += "\n"
	for _, c := range p.Creases {
		text += fmt.Sprintf(" %d-%d%c", c.From, c.To, kindLetters[c.Kind])
	}
	return strings.ReplaceAll(text[1:], "\n ", "\n") + "\n"
}

var (
	patternForm = regexp.MustCompile(`^([^\n]*)\n([^\n]*)\n$`)
	creaseForm  = regexp.MustCompile(`^(0|[1-9][0-9]{0,5})-(0|[1-9][0-9]{0,5})([BMVO])$`)
)

// readPatternOracle reads a text by its grammar.
func readPatternOracle(s string) (impl.Pattern, bool) {
	lines := patternForm.FindStringSubmatch(s)
	if lines == nil {
		return impl.Pattern{}, false
	}
	var p impl.Pattern
	for _, word := range strings.Split(lines[1], " ") {
		q, ok := pointTextOracle(word)
		if !ok {
			return impl.Pattern{}, false
		}
		p.Points = append(p.Points, q)
	}
	for _, word := range strings.Split(lines[2], " ") {
		match := creaseForm.FindStringSubmatch(word)
		if match == nil {
			return impl.Pattern{}, false
		}
		from, _ := strconv.Atoi(match[1])
		to, _ := strconv.Atoi(match[2])
		p.Creases = append(p.Creases, impl.Crease{From: int64(from), To: int64(to), Kind: kindOfLetter(match[3])})
	}
	if _, ok := patternOracle(p); !ok {
		return impl.Pattern{}, false
	}
	return p, true
}

// comparePatternsOracle compares valid patterns element by element.
func comparePatternsOracle(a, b impl.Pattern) int64 {
	for i := range min(len(a.Points), len(b.Points)) {
		if order := compareExact(exactPointOf(a.Points[i]), exactPointOf(b.Points[i])); order != 0 {
			return int64(order)
		}
	}
	if len(a.Points) != len(b.Points) {
		return signOf(len(a.Points) - len(b.Points))
	}
	for i := range min(len(a.Creases), len(b.Creases)) {
		c, d := a.Creases[i], b.Creases[i]
		if order := slices.Compare([]int64{c.From, c.To, c.Kind}, []int64{d.From, d.To, d.Kind}); order != 0 {
			return int64(order)
		}
	}
	return signOf(len(a.Creases) - len(b.Creases))
}

func signOf(n int) int64 {
	return int64(min(max(n, -1), 1))
}

// transformOracle follows the steps of the definition with numbers without limits.
func transformOracle(p impl.Pattern, k int64) (impl.Pattern, int64) {
	if k < 0 || k >= impl.Symmetries {
		return impl.Pattern{}, impl.ErrRange
	}
	ring := exactRing(p.Points)
	for i, v := range ring {
		if k >= 4 {
			v.x = v.x.negative()
		}
		for range k % 4 {
			v = v.turnedLeft()
		}
		ring[i] = v
	}
	least := ring[0]
	for _, v := range ring {
		if v.x.difference(least.x).sign() < 0 {
			least.x = v.x
		}
		if v.y.difference(least.y).sign() < 0 {
			least.y = v.y
		}
	}
	var folds []fold
	for _, c := range p.Creases {
		from, fromOk := ring[c.From].difference(least).valid()
		to, toOk := ring[c.To].difference(least).valid()
		if !fromOk || !toOk {
			return impl.Pattern{}, impl.ErrRange
		}
		folds = append(folds, fold{from, to, c.Kind})
	}
	return patternOf(folds), impl.OK
}

// imagesOracle returns what all symmetries yield, in their order.
func imagesOracle(p impl.Pattern) ([]impl.Pattern, int64) {
	var list []impl.Pattern
	for k := range int64(impl.Symmetries) {
		image, code := transformOracle(p, k)
		if code != impl.OK {
			return nil, code
		}
		list = append(list, image)
	}
	return list, impl.OK
}

// libraryTable is the table of the document.
const libraryTable = `
| ¤blintz¤ | 4 | V: (2,0) (4,2) (2,4) (0,2) (2,0) |
| ¤book¤ | 4 | V: (2,0) (2,4) |
| ¤cupboard¤ | 4 | V: (1,0) (1,4); V: (3,0) (3,4) |
| ¤diagonal¤ | 4 | V: (0,0) (4,4) |
| ¤ear¤ | 4 | V: (0,0) (2r,4-2r) (4,4); V: (4,0) (2r,4-2r); M: (2r,0) (2r,4-2r) |
| ¤fish¤ | 4 | those of ¤ear¤; V: (0,0) (4-2r,2r) (4,4); V: (0,4) (4-2r,2r); M: (0,2r) (4-2r,2r) |
| ¤kite¤ | 4 | V: (0,0) (4,-4+4r); V: (0,0) (-4+4r,4) |
| ¤miura¤ | 4 | M: (1,0) (r,1) (1,2) (r,3) (1,4); V: (2,0) (1+r,1) (2,2) (1+r,3) (2,4); V: (0,1) (r,1); M: (r,1) (1+r,1); V: (1+r,1) (4,1); M: (0,2) (1,2); V: (1,2) (2,2); M: (2,2) (4,2); V: (0,3) (r,3); M: (r,3) (1+r,3); V: (1+r,3) (4,3) |
| ¤pleat¤ | 4 | V: (1,0) (1,4); M: (2,0) (2,4); V: (3,0) (3,4) |
| ¤preliminary¤ | 4 | V: (2,0) (2,4); V: (0,2) (4,2); M: (0,0) (4,4) |
| ¤twist¤ | 8 | M: (0,3) (4,3); V: (4,0) (4,3); M: (5,0) (5,4); V: (8,4) (5,4); M: (8,5) (4,5); V: (4,8) (4,5); M: (3,8) (3,4); V: (0,4) (3,4); V: (4,3) (5,4) (4,5) (3,4) (4,3) |
| ¤waterbomb¤ | 4 | V: (0,0) (4,4); V: (0,4) (4,0); M: (0,2) (4,2) |
`

// row is one of the table: the side of the square, and the ways as readStrokes reads them.
type row struct {
	side int64
	ways string
}

var loneRoot = regexp.MustCompile(`([(,+-])r`)

func libraryRows(t *testing.T) map[string]row {
	t.Helper()
	rows := map[string]row{}
	for _, line := range strings.Split(strings.TrimSpace(libraryTable), "\n") {
		cells := strings.Split(strings.Trim(line, "| "), " | ")
		name := strings.Trim(cells[0], "¤")
		side, err := strconv.Atoi(cells[1])
		ways := loneRoot.ReplaceAllString(strings.ReplaceAll(cells[2], ":", ""), "${1}1r")
		if err != nil || len(cells) != 3 {
			t.Fatalf("the row %q cannot be read", line)
		}
		rows[name] = row{int64(side), strings.ReplaceAll(ways, "those of ¤ear¤", rows["ear"].ways)}
	}
	return rows
}
