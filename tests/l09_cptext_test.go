package tests

import (
	"fmt"
	"math"
	"slices"
	"strings"
	"testing"

	"loop.example/g00857/impl"
)

const exampleText = "(0,0) (0,1) (1,0) (1,1)\n0-1B 0-2B 0-3V 1-3B 2-3B\n"

func TestExampleOfPatternText(t *testing.T) {
	p, _ := impl.SquarePattern(1)
	p, code := impl.AddCrease(p, impl.Point{}, mustPoint(t, "(1,1)"), impl.KdValley)
	if got := impl.PatternText(p); code != impl.OK || got != exampleText {
		t.Errorf("the text of the example is %q, %d", got, code)
	}
	if got, ok := impl.ReadPattern(exampleText); !ok || !impl.SamePattern(got, p) {
		t.Errorf("the example is read as %s, %v", patternText(got), ok)
	}
	if got, code := impl.PatternSymmetries(p); code != impl.OK || !slices.Equal(got, []int64{0, 2, 5, 7}) {
		t.Errorf("the example has the symmetries %v, %d", got, code)
	}
}

func TestPatternText(t *testing.T) {
	for ways, want := range map[string]string{
		"B (0,0) (1,0) (1,1) (0,0)": "(0,0) (1,0) (1,1)\n0-1B 0-2B 1-2B\n",
		"B (0,0) (1r,0) (1r,1) (0,1) (0,0); M (0,0) (1,1); V (1,1) (1,0); O (1,0) (1r,-1+1r)": "(0,0) (0,1) (1,0) (1,1) (1r,0) (1r,-1+1r) (1r,1)\n0-1B 0-2B 0-3M 1-3B 2-3V 2-4B 2-5O 3-6B 4-5B 5-6B\n",
		"B (-1/2,0) (1/2,0) (1/2,(1+1r)/2) (-1/2,(1+1r)/2) (-1/2,0)":                          "(-1/2,0) (-1/2,(1+1r)/2) (1/2,0) (1/2,(1+1r)/2)\n0-1B 0-2B 1-3B 2-3B\n",
	} {
		p := drawn(t, ways)
		if got := impl.PatternText(p); got != want {
			t.Errorf("the text of %q is %q", ways, got)
		}
		if got, ok := impl.ReadPattern(want); !ok || !impl.SamePattern(got, p) {
			t.Errorf("%q is read as %s, %v", want, patternText(got), ok)
		}
	}
	// Indices may have two digits.
	text := impl.PatternText(sidePattern(40))
	if got, ok := impl.ReadPattern(text); !ok || !strings.HasSuffix(text, " 37-38B 38-39B\n") || !impl.SamePattern(got, sidePattern(40)) {
		t.Errorf("the text of a pattern with 40 points is %q", text)
	}
}

func TestOtherTextsOfPatterns(t *testing.T) {
	for _, v := range []struct{ why, text string }{
		{"nothing", ""},
		{"a newline", "\n"},
		{"two newlines", "\n\n"},
		{"a blank", " "},
		{"no points", "\n0-1B 0-2B 0-3V 1-3B 2-3B\n"},
		{"no creases", "(0,0) (0,1) (1,0) (1,1)\n\n"},
		{"no line of creases", "(0,0) (0,1) (1,0) (1,1)\n"},
		{"no last newline", "(0,0) (0,1) (1,0) (1,1)\n0-1B 0-2B 0-3V 1-3B 2-3B"},
		{"a newline more at the end", exampleText + "\n"},
		{"a newline at the beginning", "\n" + exampleText},
		{"a newline more between the lines", "(0,0) (0,1) (1,0) (1,1)\n\n0-1B 0-2B 0-3V 1-3B 2-3B\n"},
		{"a blank at the end", exampleText + " "},
		{"a blank at the beginning", " " + exampleText},
		{"a blank at the end of the first line", "(0,0) (0,1) (1,0) (1,1) \n0-1B 0-2B 0-3V 1-3B 2-3B\n"},
		{"a blank at the end of the second line", "(0,0) (0,1) (1,0) (1,1)\n0-1B 0-2B 0-3V 1-3B 2-3B \n"},
		{"a blank at the beginning of the second line", "(0,0) (0,1) (1,0) (1,1)\n 0-1B 0-2B 0-3V 1-3B 2-3B\n"},
		{"two blanks between points", "(0,0)  (0,1) (1,0) (1,1)\n0-1B 0-2B 0-3V 1-3B 2-3B\n"},
		{"two blanks between creases", "(0,0) (0,1) (1,0) (1,1)\n0-1B  0-2B 0-3V 1-3B 2-3B\n"},
		{"no blank between points", "(0,0)(0,1) (1,0) (1,1)\n0-1B 0-2B 0-3V 1-3B 2-3B\n"},
		{"no blank between creases", "(0,0) (0,1) (1,0) (1,1)\n0-1B0-2B 0-3V 1-3B 2-3B\n"},
		{"a blank in a point", "(0,0) (0, 1) (1,0) (1,1)\n0-1B 0-2B 0-3V 1-3B 2-3B\n"},
		{"a blank in a crease", "(0,0) (0,1) (1,0) (1,1)\n0-1 B 0-2B 0-3V 1-3B 2-3B\n"},
		{"a tabulator", "(0,0)\t(0,1) (1,0) (1,1)\n0-1B 0-2B 0-3V 1-3B 2-3B\n"},
		{"a carriage return", "(0,0) (0,1) (1,0) (1,1)\r\n0-1B 0-2B 0-3V 1-3B 2-3B\r\n"},
		{"one line", "(0,0) (0,1) (1,0) (1,1) 0-1B 0-2B 0-3V 1-3B 2-3B\n"},
		{"the lines exchanged", "0-1B 0-2B 0-3V 1-3B 2-3B\n(0,0) (0,1) (1,0) (1,1)\n"},
		{"a leading zero in a point", "(0,0) (0,01) (1,0) (1,1)\n0-1B 0-2B 0-3V 1-3B 2-3B\n"},
		{"a leading zero in an index", "(0,0) (0,1) (1,0) (1,1)\n0-01B 0-2B 0-3V 1-3B 2-3B\n"},
		{"a zero more in the index 0", "(0,0) (0,1) (1,0) (1,1)\n00-1B 0-2B 0-3V 1-3B 2-3B\n"},
		{"a sign of a point", "(0,0) (0,+1) (1,0) (1,1)\n0-1B 0-2B 0-3V 1-3B 2-3B\n"},
		{"a sign of zero", "(0,-0) (0,1) (1,0) (1,1)\n0-1B 0-2B 0-3V 1-3B 2-3B\n"},
		{"a sign of an index", "(0,0) (0,1) (1,0) (1,1)\n0-+1B 0-2B 0-3V 1-3B 2-3B\n"},
		{"a negative index", "(0,0) (0,1) (1,0) (1,1)\n-0-1B 0-2B 0-3V 1-3B 2-3B\n"},
		{"two signs", "(0,0) (0,1) (1,0) (1,1)\n0--1B 0-2B 0-3V 1-3B 2-3B\n"},
		{"no index", "(0,0) (0,1) (1,0) (1,1)\n-1B 0-2B 0-3V 1-3B 2-3B\n"},
		{"no second index", "(0,0) (0,1) (1,0) (1,1)\n0-B 0-2B 0-3V 1-3B 2-3B\n"},
		{"three indices", "(0,0) (0,1) (1,0) (1,1)\n0-0-1B 0-2B 0-3V 1-3B 2-3B\n"},
		{"no sign between the indices", "(0,0) (0,1) (1,0) (1,1)\n01B 0-2B 0-3V 1-3B 2-3B\n"},
		{"another sign between the indices", "(0,0) (0,1) (1,0) (1,1)\n0+1B 0-2B 0-3V 1-3B 2-3B\n"},
		{"indices exchanged", "(0,0) (0,1) (1,0) (1,1)\n1-0B 0-2B 0-3V 1-3B 2-3B\n"},
		{"creases in another order", "(0,0) (0,1) (1,0) (1,1)\n0-2B 0-1B 0-3V 1-3B 2-3B\n"},
		{"a crease twice", "(0,0) (0,1) (1,0) (1,1)\n0-1B 0-1B 0-2B 0-3V 1-3B 2-3B\n"},
		{"points in another order", "(0,0) (1,0) (0,1) (1,1)\n0-1B 0-2B 0-3V 1-3B 2-3B\n"},
		{"an index out of range", "(0,0) (0,1) (1,0) (1,1)\n0-1B 0-2B 0-4V 1-3B 2-3B\n"},
		{"an index of 2^64 + 3", "(0,0) (0,1) (1,0) (1,1)\n0-1B 0-2B 0-18446744073709551619V 1-3B 2-3B\n"},
		{"an index of 2^32 + 3", "(0,0) (0,1) (1,0) (1,1)\n0-1B 0-2B 0-4294967299V 1-3B 2-3B\n"},
		{"the letter of no kind", "(0,0) (0,1) (1,0) (1,1)\n0-1B 0-2B 0-3X 1-3B 2-3B\n"},
		{"a small letter", "(0,0) (0,1) (1,0) (1,1)\n0-1B 0-2B 0-3v 1-3B 2-3B\n"},
		{"no letter", "(0,0) (0,1) (1,0) (1,1)\n0-1B 0-2B 0-3 1-3B 2-3B\n"},
		{"two letters", "(0,0) (0,1) (1,0) (1,1)\n0-1B 0-2B 0-3VV 1-3B 2-3B\n"},
		{"two different letters", "(0,0) (0,1) (1,0) (1,1)\n0-1B 0-2B 0-3MV 1-3B 2-3B\n"},
		{"a letter at the beginning", "(0,0) (0,1) (1,0) (1,1)\n0-1B 0-2B V0-3 1-3B 2-3B\n"},
		{"a letter between the indices", "(0,0) (0,1) (1,0) (1,1)\n0-1B 0-2B 0V-3 1-3B 2-3B\n"},
		{"a kind as a digit", "(0,0) (0,1) (1,0) (1,1)\n0-1B 0-2B 0-33 1-3B 2-3B\n"},
		{"a byte above 127", "(0,0) (0,1) (1,0) (1,1)\n0-1B 0-2B 0-3\xd6 1-3B 2-3B\n"},
		{"a letter with two bytes", "(0,0) (0,1) (1,0) (1,1)\n0-1B 0-2B 0-3VÖ 1-3B 2-3B\n"},
		{"a rune that ends like a letter", "(0,0) (0,1) (1,0) (1,1)\n0-1B 0-2B 0-3Ŗ 1-3B 2-3B\n"},
		{"a digit of another script", "(0,0) (0,1) (1,0) (1,1)\n0-1B 0-2B 0-٣V 1-3B 2-3B\n"},
		{"a byte 0 at the end", exampleText + "\x00"},
		{"a number that is not in lowest terms", "(0,0) (0,2/2) (1,0) (1,1)\n0-1B 0-2B 0-3V 1-3B 2-3B\n"},
		{"a point of three numbers", "(0,0) (0,1,0) (1,0) (1,1)\n0-1B 0-2B 0-3V 1-3B 2-3B\n"},
		{"a pattern that is not connected", "(0,0) (0,3) (1,1) (2,2) (3,0) (3,3)\n0-1B 0-4B 1-5B 2-3V 4-5B\n"},
		{"an isolated point", "(0,0) (0,2) (1,1) (2,0) (2,2)\n0-1B 0-3B 1-4B 3-4B\n"},
		{"an open border", "(0,0) (0,1) (1,0) (1,1)\n0-1B 0-2B 0-3V 1-3B\n"},
		{"creases that cross", "(0,0) (0,1) (1,0) (1,1)\n0-1B 0-2B 0-3V 1-2M 1-3B 2-3B\n"},
	} {
		if p, ok := impl.ReadPattern(v.text); ok || len(p.Points) != 0 || len(p.Creases) != 0 {
			t.Errorf("a text with %s is read as %s, %v", v.why, patternText(p), ok)
		}
		if _, ok := readPatternOracle(v.text); ok {
			t.Errorf("a text with %s has a pattern", v.why)
		}
	}
}

func TestTextsOfInvalidPatterns(t *testing.T) {
	list := wildPatterns()
	for _, v := range wrongPatterns {
		list = append(list, written(t, v.points, v.creases))
	}
	good := with(t, paper2, "")
	for _, p := range list {
		if _, ok := patternOracle(p); ok {
			continue
		}
		if got := impl.PatternText(p); got != "" {
			t.Errorf("the text of %s is %q", patternText(p), got)
		}
		if impl.ComparePatterns(p, good) != 0 || impl.ComparePatterns(good, p) != 0 || impl.ComparePatterns(p, p) != 0 {
			t.Errorf("%s is compared", patternText(p))
		}
		for _, k := range []int64{0, 5, 8, -1} {
			got, code := impl.TransformPattern(p, k)
			checkDrawn(t, "an image of "+patternText(p), got, impl.Pattern{}, code, impl.ErrInvalid)
		}
		got, code := impl.CanonicalPattern(p)
		checkDrawn(t, "the canonical form of "+patternText(p), got, impl.Pattern{}, code, impl.ErrInvalid)
		if list, code := impl.PatternSymmetries(p); len(list) != 0 || code != impl.ErrInvalid {
			t.Errorf("the symmetries of %s are %v, %d", patternText(p), list, code)
		}
		if len(p.Points) > 2*impl.MaxPoints || len(p.Creases) > 2*impl.MaxCreases {
			continue
		}
		if text := wildFormOracle(p); text != "" {
			checkReadPattern(t, text)
		}
	}
}

// wildFormOracle writes a pattern whose kinds have letters as if it were valid.
func wildFormOracle(p impl.Pattern) string {
	for _, c := range p.Creases {
		if c.Kind < 1 || c.Kind > 4 {
			return ""
		}
	}
	if len(p.Points) == 0 && len(p.Creases) == 0 {
		return "\n\n"
	}
	return patternFormOracle(p)
}

func TestComparePatterns(t *testing.T) {
	hanging := "B (0,1) (1,0) (2,1) (1,2) (0,1); O (0,1) (1,1) (3/2,1)"
	for i, v := range []struct{ a, b string }{
		{"B (0,0) (1,0) (1,1) (0,1) (0,0)", "B (0,0) (2,0) (2,1) (0,1) (0,0); O (1,0) (1,1)"},
		{"B (0,0) (1,0) (1,1) (0,1) (0,0)", "B (0,0) (1,0) (2,0) (2,1) (1,1) (0,1) (0,0)"},
		{"B (0,0) (1,0) (1,1) (0,1) (0,0)", "B (0,0) (1,0) (1,2) (0,2) (0,0)"},
		{"B (0,0) (1,0) (1,1) (0,1) (0,0)", "B (1,0) (2,0) (2,1) (1,1) (1,0)"},
		{"B (-1,0) (0,0) (0,1) (-1,1) (-1,0)", "B (0,0) (1,0) (1,1) (0,1) (0,0)"},
		{"B (0,0) (1,0) (1,1) (0,0)", "B (0,0) (2,0) (2,2) (0,0)"},
		{"B (0,0) (1,0) (1,1) (0,1) (0,0)", "B (0,0) (1,0) (1,1) (0,0)"},
		{"B (0,0) (1,0) (1,1) (0,1) (0,0); M (0,0) (1,1)", "B (0,0) (1,0) (1,1) (0,1) (0,0)"},
		{"B (0,0) (1,0) (1,1) (0,1) (0,0); M (0,0) (1,1)", "B (0,0) (1,0) (1,1) (0,1) (0,0); V (0,0) (1,1)"},
		{"B (0,0) (1,0) (1,1) (0,1) (0,0); V (0,0) (1,1)", "B (0,0) (1,0) (1,1) (0,1) (0,0); O (0,0) (1,1)"},
		{"B (0,0) (1,0) (1,1) (0,1) (0,0); O (0,0) (1,1)", "B (0,0) (1,0) (1,1) (0,1) (0,0); M (1,0) (0,1)"},
		{"B (0,0) (1,0) (1,1) (0,1) (0,0); O (1,0) (0,1)", "B (0,0) (1,0) (1,1) (0,1) (0,0)"},
		{hanging, hanging + "; M (3/2,1) (2,1)"},
		{hanging, "B (0,1) (1,0) (2,1) (1,2) (0,1); O (1,1) (3/2,1) (2,1)"},
		{hanging + "; M (3/2,1) (2,1)", hanging + "; V (3/2,1) (2,1)"},
		{"B (0,0) (1,0) (1,1) (0,1) (0,0); V (0,1/2) (1,1/2)", "B (0,0) (1,0) (1,1) (0,1) (0,0); V (0,1r/2) (1,1r/2)"},
	} {
		a, b := drawn(t, v.a), drawn(t, v.b)
		if impl.ComparePatterns(a, b) != -1 || impl.ComparePatterns(b, a) != 1 || impl.ComparePatterns(a, a) != 0 || impl.ComparePatterns(b, b) != 0 {
			t.Errorf("pair %d: %q and %q are compared as %d and %d", i, v.a, v.b, impl.ComparePatterns(a, b), impl.ComparePatterns(b, a))
		}
	}
	// The lists of the first two pairs, and those of the creases of `hanging`, are beginnings of the others.
	short, long := drawn(t, hanging), drawn(t, hanging+"; M (3/2,1) (2,1)")
	if !slices.Equal(short.Points, long.Points) || !slices.Equal(short.Creases, long.Creases[:len(short.Creases)]) {
		t.Errorf("%s is not a beginning of %s", patternText(short), patternText(long))
	}
}

func TestSymmetriesOfPatterns(t *testing.T) {
	for ways, want := range map[string][]int64{
		paper4:                                                                  {0, 1, 2, 3, 4, 5, 6, 7},
		paper4 + "; M (0,2) (4,2)":                                              {0, 2, 4, 6},
		paper4 + "; M (1,0) (1,4)":                                              {0, 6},
		paper4 + "; M (0,1) (4,1)":                                              {0, 4},
		paper4 + "; V (0,0) (4,4)":                                              {0, 2, 5, 7},
		paper4 + "; V (0,4) (4,0)":                                              {0, 2, 5, 7},
		paper4 + "; V (0,0) (1,1)":                                              {0, 7},
		paper4 + "; V (4,0) (3,1)":                                              {0, 5},
		paper4 + "; V (0,0) (2,2); M (2,2) (4,4)":                               {0, 7},
		paper4 + "; V (0,0) (2,2) (4,4); M (0,4) (2,2) (4,0)":                   {0, 2, 5, 7},
		paper4 + "; V (0,0) (2,2) (4,4); V (0,4) (2,2) (4,0)":                   {0, 1, 2, 3, 4, 5, 6, 7},
		paper4 + "; V (0,0) (1,1); V (4,4) (3,3)":                               {0, 2, 5, 7},
		paper4 + "; V (1,0) (1,1); V (3,4) (3,3)":                               {0, 2},
		paper4 + "; V (1,0) (1,1); M (3,4) (3,3)":                               {0},
		paper4 + "; V (1,0) (1,1); V (4,1) (3,1); V (3,4) (3,3); V (0,3) (1,3)": {0, 1, 2, 3},
		paper4 + "; V (1,0) (1,1); V (1,4) (1,3)":                               {0, 6},
		"B (0,0) (4,0) (4,2) (0,2) (0,0)":                                       {0, 2, 4, 6},
		"B (0,0) (4,0) (4,4) (0,0)":                                             {0, 5},
		"B (0,1) (1,0) (2,1) (1,2) (0,1)":                                       {0, 1, 2, 3, 4, 5, 6, 7},
	} {
		p := drawn(t, ways)
		if got, code := impl.PatternSymmetries(p); code != impl.OK || !slices.Equal(got, want) {
			t.Errorf("%q has the symmetries %v, %d, not %v", ways, got, code, want)
		}
	}
}

// TestTransformPattern moves a pattern without symmetries, which is not at the origin.
func TestTransformPattern(t *testing.T) {
	p := drawn(t, "B (-2,3) (2,3) (2,5) (-2,5) (-2,3); V (1,3) (1,4); M (-1,5) (0,4)")
	for k, want := range []string{
		"B (0,0) (4,0) (4,2) (0,2) (0,0); V (3,0) (3,1); M (1,2) (2,1)",
		"B (0,0) (2,0) (2,4) (0,4) (0,0); V (2,3) (1,3); M (0,1) (1,2)",
		"B (0,0) (4,0) (4,2) (0,2) (0,0); V (1,2) (1,1); M (3,0) (2,1)",
		"B (0,0) (2,0) (2,4) (0,4) (0,0); V (0,1) (1,1); M (2,3) (1,2)",
		"B (0,0) (4,0) (4,2) (0,2) (0,0); V (1,0) (1,1); M (3,2) (2,1)",
		"B (0,0) (2,0) (2,4) (0,4) (0,0); V (2,1) (1,1); M (0,3) (1,2)",
		"B (0,0) (4,0) (4,2) (0,2) (0,0); V (3,2) (3,1); M (1,0) (2,1)",
		"B (0,0) (2,0) (2,4) (0,4) (0,0); V (0,3) (1,3); M (2,1) (1,2)",
	} {
		got, code := impl.TransformPattern(p, int64(k))
		checkDrawn(t, fmt.Sprint("the image ", k), got, drawn(t, want), code, impl.OK)
	}
	want := drawn(t, "B (0,0) (2,0) (2,4) (0,4) (0,0); V (0,1) (1,1); M (2,3) (1,2)")
	got, code := impl.CanonicalPattern(p)
	checkDrawn(t, "the canonical form", got, want, code, impl.OK)
	for _, k := range append(extremes(), -1, 8, 9, 16, math.MinInt64+1, 1<<32) {
		if k < 0 || k > 7 {
			got, code := impl.TransformPattern(p, k)
			checkDrawn(t, fmt.Sprint("the image ", k), got, impl.Pattern{}, code, impl.ErrRange)
		}
	}
}

// TestImagesThatLeaveTheLimits has papers on which the distance of a point from one side, or from both,
// leaves the limits; a symmetry and another one measure from the same sides.
func TestImagesThatLeaveTheLimits(t *testing.T) {
	for _, v := range []struct {
		why, ways string
		fitting   []int64
	}{
		{"none", "B (0,0) (7,0) (7,5) (0,5) (0,0)", []int64{0, 1, 2, 3, 4, 5, 6, 7}},
		{"from the right", "B (0,0) (100000-70000r,0) (-90000+65000r,0) (-90000+65000r,1) (0,1) (0,0)", []int64{0, 1, 6, 7}},
		{"from the left", "B (90000-65000r,0) (-100000+70000r,0) (0,0) (0,1) (90000-65000r,1) (90000-65000r,0)", []int64{2, 3, 4, 5}},
		{"from the left and from above", "B (90000-65000r,0) (-100000+70000r,0) (0,0) (0,100000-70000r) (0,-90000+65000r) (90000-65000r,-90000+65000r) (90000-65000r,0)", []int64{3, 4}},
		{"from above", "B (0,0) (1,0) (1,-90000+65000r) (0,-90000+65000r) (0,100000-70000r) (0,0)", []int64{0, 3, 4, 7}},
		{"the whole width", "B (-131072,0) (131072,0) (131072,1) (-131072,1) (-131072,0)", nil},
		{"the greatest width", "B (-65536,0) (65536,0) (65536,1) (-65536,1) (-65536,0)", []int64{0, 1, 2, 3, 4, 5, 6, 7}},
		{"a bit more than the greatest width", "B (-65536,0) (65537,0) (65537,1) (-65536,1) (-65536,0)", nil},
		{"the least coordinate as a fraction", "B (1/1024,0) (131072,0) (131072,1) (1/1024,1) (1/1024,0)", nil},
	} {
		p := drawn(t, v.ways)
		for k := range int64(impl.Symmetries) {
			want, wantCode := transformOracle(p, k)
			got, code := impl.TransformPattern(p, k)
			checkDrawn(t, fmt.Sprint("the image ", k, " of a pattern that leaves the limits ", v.why), got, want, code, wantCode)
			if (code == impl.OK) != slices.Contains(v.fitting, k) {
				t.Errorf("the image %d of a pattern that leaves the limits %s has the code %d", k, v.why, code)
			}
		}
		want := int64(impl.OK)
		if len(v.fitting) < impl.Symmetries {
			want = impl.ErrRange
		}
		canonical, code := impl.CanonicalPattern(p)
		symmetries, symmetriesCode := impl.PatternSymmetries(p)
		if code != want || symmetriesCode != want || want != impl.OK && len(canonical.Points)+len(canonical.Creases)+len(symmetries) > 0 {
			t.Errorf("the canonical form of a pattern that leaves the limits %s is %s, %d, and its symmetries are %v, %d", v.why, patternText(canonical), code, symmetries, symmetriesCode)
		}
	}
}

func TestLibrary(t *testing.T) {
	rows := libraryRows(t)
	names := impl.LibraryNames()
	if want := strings.Fields("blintz book cupboard diagonal ear fish kite miura pleat preliminary twist waterbomb"); !slices.Equal(names, want) || len(rows) != len(want) {
		t.Errorf("the names are %v, and there are %d rows", names, len(rows))
	}
	for _, name := range names {
		far := rows[name].side
		border := fmt.Sprintf("B (0,0) (%d,0) (%d,%d) (0,%d) (0,0); ", far, far, far, far)
		want := drawn(t, border+rows[name].ways)
		got, ok := impl.LibraryPattern(name)
		if !ok || !impl.SamePattern(got, want) || !impl.ValidPattern(got) {
			t.Errorf("%s is %s, %v, not %s", name, patternText(got), ok, patternText(want))
		}
		step, _ := impl.SquarePattern(far)
		for _, s := range readStrokes(t, rows[name].ways) {
			a, _ := s.p.valid()
			b, _ := s.q.valid()
			step, _ = impl.AddCrease(step, a, b, s.kind)
		}
		if !impl.SamePattern(got, step) {
			t.Errorf("%s is %s, but drawn step by step it is %s", name, patternText(got), patternText(step))
		}
	}
	for _, name := range []string{"", " ", "Fish", "FISH", "fis", "fishy", "fish ", " fish", "fish\n", "fish\x00", "book kite", "base", "bird", "0", "\xff", "é", strings.Repeat("fish", 100000)} {
		if p, ok := impl.LibraryPattern(name); ok || len(p.Points) != 0 || len(p.Creases) != 0 {
			t.Errorf("the library has a pattern %.200q", name)
		}
	}
}

func TestSymmetriesOfTheLibrary(t *testing.T) {
	for name, want := range map[string][]int64{
		"blintz": {0, 1, 2, 3, 4, 5, 6, 7}, "book": {0, 2, 4, 6}, "cupboard": {0, 2, 4, 6}, "diagonal": {0, 2, 5, 7},
		"ear": {0}, "fish": {0, 7}, "kite": {0, 7}, "miura": {0, 6}, "pleat": {0, 2, 4, 6},
		"preliminary": {0, 2, 5, 7}, "twist": {0, 1, 2, 3}, "waterbomb": {0, 2, 4, 6},
	} {
		p, _ := impl.LibraryPattern(name)
		if got, code := impl.PatternSymmetries(p); code != impl.OK || !slices.Equal(got, want) {
			t.Errorf("%s has the symmetries %v, %d, not %v", name, got, code, want)
		}
	}
}
