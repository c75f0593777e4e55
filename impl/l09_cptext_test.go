package impl

import (
	"slices"
	"sync"
	"testing"
)

// The variables of the library stay beside the recipes. The exported functions show only results, so
// these tests check that no result depends on the variables, and that they are read all the same.

// libraryTexts returns the texts of all patterns of the library in the order of their names.
func libraryTexts(t *testing.T) []string {
	t.Helper()
	var texts []string
	for _, name := range LibraryNames() {
		p, ok := LibraryPattern(name)
		if text := PatternText(p); !ok || text == "" {
			t.Errorf("the pattern %s of the library is %v, %v", name, p, ok)
		}
		texts = append(texts, name+" "+PatternText(p))
	}
	return texts
}

func TestTheLibraryDoesNotDependOnItsVariables(t *testing.T) {
	want := libraryTexts(t)
	kept := library()
	defer func() { libraryPatterns = kept }()
	square, _ := SquarePattern(1)
	spoiled := map[string]Pattern{"fish": square, "kite": {}, "frog": square}
	for _, patterns := range []map[string]Pattern{nil, {}, spoiled} {
		libraryPatterns = patterns
		if got := libraryTexts(t); len(got) != 12 || !slices.Equal(got, want) {
			t.Errorf("with the variable %v the library has %q, not %q", patterns, got, want)
		}
		if p, ok := LibraryPattern("frog"); ok || !SamePattern(p, Pattern{}) {
			t.Errorf("with the variable %v the library has the frog %v, %v", patterns, p, ok)
		}
	}
}

func TestTheVariablesOfTheLibraryAreSetOnceAndRead(t *testing.T) {
	libraryOnce, libraryPatterns = sync.Once{}, nil
	names := LibraryNames()
	if len(names) != 12 || len(libraryPatterns) != len(names) {
		t.Errorf("the library has %d names, and its variable %d patterns", len(names), len(libraryPatterns))
	}
	for _, name := range names {
		if p, ok := LibraryPattern(name); !ok || !SamePattern(p, libraryPatterns[name]) {
			t.Errorf("%s is %v, %v, and in the variable %v", name, p, ok, libraryPatterns[name])
		}
	}
	delete(libraryPatterns, "fish")
	if again := LibraryNames(); len(again) != 12 || len(libraryPatterns) != 11 {
		t.Errorf("the variable of the library is set again, with %d patterns", len(libraryPatterns))
	}
	libraryOnce, libraryPatterns = sync.Once{}, nil
}
