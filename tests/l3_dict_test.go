package tests

import (
	"slices"
	"strings"
	"testing"

	"loop.example/s01316/impl"
)

func TestValidDict(t *testing.T) {
	most := strings.Repeat("x", impl.MaxTexts)
	good := [][][]byte{nil, {}, {nil}, texts("a"), texts("a", "A", "aa", ""), texts("", most), texts(most[1:], "y"), numbered(impl.MaxDict)}
	for i, values := range good {
		if !impl.ValidDict(values) {
			t.Errorf("good %d", i)
		}
	}
	bad := [][][]byte{texts("a", "a"), {nil, {}}, texts("", "a", ""), texts(most, "y"), texts(most + "x"), numbered(impl.MaxDict + 1)}
	for i, values := range bad {
		if impl.ValidDict(values) {
			t.Errorf("bad %d", i)
		}
	}
	full := numbered(impl.MaxDict)
	for i := range full {
		for j := range i {
			twice := slices.Clone(full)
			twice[i] = slices.Clone(full[j])
			if impl.ValidDict(twice) {
				t.Errorf("texts %d and %d are the same", j, i)
			}
		}
	}
}
