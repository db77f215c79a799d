package props_test

import (
	"slices"
	"testing"

	"glyphcutter/api"
	"glyphcutter/props"
)

// TestClassesAreNew: R2: who writes into a class, up to its capacity, changes no other answer, be it of the same class or of one that has it whole.
func TestClassesAreNew(t *testing.T) {
	want := sets()
	kept := map[string][]api.Span{}
	for _, name := range names {
		kept[name], _ = props.Of(name)
	}
	for _, name := range names {
		l, _ := props.Of(name)
		l = l[:cap(l)]
		for i := range l {
			l[i] = api.Span{Lo: -77, Hi: -77}
		}
	}
	for _, name := range names {
		if !slices.Equal(kept[name], want[name]) {
			t.Errorf("%s changed with another answer", name)
		}
		expectClass(t, name, want[name])
	}
}

// TestNamesAreNew: the same of Names; what is written into its answer names no class.
func TestNamesAreNew(t *testing.T) {
	first, second := props.Names(), props.Names()
	first = first[:cap(first)]
	for i := range first {
		first[i] = "changed"
	}
	if !slices.Equal(second, names) || !slices.Equal(props.Names(), names) {
		t.Error("answers of Names share memory")
	}
	if _, ok := props.Of("changed"); ok {
		t.Error("Of asks what Names handed out")
	}
}
