package tests

import (
	"bytes"
	"math"
	"slices"
	"strings"
	"testing"

	"loop.example/s01316/impl"
)

func TestValidDict(t *testing.T) {
	most := strings.Repeat("x", impl.MaxTexts)
	good := [][][]byte{nil, {}, {nil}, texts("a"), texts("a", "A", "aa", ""), texts("", most), texts(most[1:], "y"), numbered(impl.MaxDict)}
	for i, values := range good {
		if !impl.ValidDict(values) {
			t.Errorf("good %d", i)
		}
	}
	bad := [][][]byte{texts("a", "a"), {nil, {}}, texts("", "a", ""), texts(most, "y"), texts(most + "x"), numbered(impl.MaxDict + 1)}
	for i, values := range bad {
		if impl.ValidDict(values) {
			t.Errorf("bad %d", i)
		}
	}
	full := numbered(impl.MaxDict)
	for i := range full {
		for j := range i {
			twice := slices.Clone(full)
			twice[i] = slices.Clone(full[j])
			if impl.ValidDict(twice) {
				t.Errorf("texts %d and %d are the same", j, i)
			}
		}
	}
}

// planByHand is the document's plan for values and cells that are valid; it needs none of the program's functions.
func planByHand(values [][]byte, cells []impl.Cell) (impl.Plan, int) {
	var needed, added [][]byte
	for _, c := range cells {
		if c.Null || listHas(needed, c.Text) {
			continue
		}
		needed = append(needed, c.Text)
		if !listHas(values, c.Text) {
			added = append(added, c.Text)
		}
	}
	both := slices.Concat(values, added)
	switch {
	case len(added) == 0:
		return impl.Plan{Action: impl.DictKeep, Values: values}, impl.CodeOK
	case dictByHand(both):
		return impl.Plan{Action: impl.DictDelta, Fresh: added, Values: both}, impl.CodeOK
	case dictByHand(needed):
		return impl.Plan{Action: impl.DictReplace, Fresh: needed, Values: needed}, impl.CodeOK
	}
	return impl.Plan{}, impl.CodeFull
}

func dictByHand(values [][]byte) bool {
	size := 0
	for i, v := range values {
		size += len(v)
		if listHas(values[:i], v) {
			return false
		}
	}
	return len(values) <= impl.MaxDict && size <= impl.MaxTexts
}

func samePlan(a, b impl.Plan) bool {
	return a.Action == b.Action && sameLists(a.Fresh, b.Fresh) && sameLists(a.Values, b.Values)
}

// checkPlan holds PlanDict against the document and lets the other side follow; it answers what both sides have then.
func checkPlan(t *testing.T, values [][]byte, cells []impl.Cell) [][]byte {
	t.Helper()
	want, wantCode := planByHand(values, cells)
	got, code := impl.PlanDict(values, cells)
	if code != wantCode || !samePlan(got, want) {
		t.Fatalf("PlanDict(%.60q, %.60v) = %.60v, %d; want %.60v, %d", values, cells, got, code, want, wantCode)
	}
	if code != impl.CodeOK {
		return nil
	}
	other, code := impl.ApplyDict(copyLists(values), got.Action, copyLists(got.Fresh))
	if code != impl.CodeOK || !sameLists(other, got.Values) {
		t.Fatalf("ApplyDict(%.60q, %d, %.60q) = %.60q, %d; want %.60q", values, got.Action, got.Fresh, other, code, got.Values)
	}
	if !impl.ValidDict(other) {
		t.Fatalf("PlanDict(%.60q, %.60v): the dictionary %.60q is not valid", values, cells, other)
	}
	for _, c := range cells {
		if !c.Null && !listHas(other, c.Text) {
			t.Fatalf("PlanDict(%.60q, %.60v): %.60q does not stand in %.60q", values, cells, c.Text, other)
		}
	}
	return other
}

func checkNoPlan(t *testing.T, values [][]byte, cells []impl.Cell, want int) {
	t.Helper()
	if got, code := impl.PlanDict(values, cells); code != want || !samePlan(got, impl.Plan{}) {
		t.Errorf("PlanDict(%.60q, %.60v) = %.60v, %d; want none, %d", values, cells, got, code, want)
	}
}

func checkApplied(t *testing.T, values [][]byte, action int, fresh, want [][]byte) {
	t.Helper()
	if got, code := impl.ApplyDict(values, action, fresh); code != impl.CodeOK || !sameLists(got, want) {
		t.Errorf("ApplyDict(%.60q, %d, %.60q) = %.60q, %d; want %.60q", values, action, fresh, got, code, want)
	}
}

func checkNotApplied(t *testing.T, values [][]byte, action int, fresh [][]byte, want int) {
	t.Helper()
	if got, code := impl.ApplyDict(values, action, fresh); code != want || len(got) != 0 {
		t.Errorf("ApplyDict(%.60q, %d, %.60q) = %.60q, %d; want none, %d", values, action, fresh, got, code, want)
	}
}

// othersNumbered are n different texts, none of them among those of numbered.
func othersNumbered(n int) [][]byte {
	list := numbered(n)
	for _, s := range list {
		s[0] = 'u'
	}
	return list
}

// P4
func TestPlansOfEachCase(t *testing.T) {
	full, half := numbered(impl.MaxDict), numbered(impl.MaxDict/2)
	others := othersNumbered(impl.MaxDict + 1)
	cases := []struct {
		what   string
		values [][]byte
		cells  []impl.Cell
		want   impl.Plan
	}{
		{"nothing at all", nil, nil, impl.Plan{}},
		{"no cells", texts("b", "a"), nil, impl.Plan{Values: texts("b", "a")}},
		{"Nulls alone", texts("b", "a"), []impl.Cell{null, null}, impl.Plan{Values: texts("b", "a")}},
		{"Nulls alone, no values", nil, []impl.Cell{null}, impl.Plan{}},
		{"all there", texts("b", "a"), []impl.Cell{text("a"), null, text("b"), text("a")}, impl.Plan{Values: texts("b", "a")}},
		{"the empty text is there", texts("a", ""), []impl.Cell{text("")}, impl.Plan{Values: texts("a", "")}},
		{"all there, no room", full, cellsOf(full), impl.Plan{Values: full}},
		{"the first texts", nil, []impl.Cell{text("b"), text("a"), text("b"), null, text("c"), text("a")},
			impl.Plan{Action: impl.DictDelta, Fresh: texts("b", "a", "c"), Values: texts("b", "a", "c")}},
		{"one more", texts("z", "y"), []impl.Cell{text("y"), text("x"), text("y")},
			impl.Plan{Action: impl.DictDelta, Fresh: texts("x"), Values: texts("z", "y", "x")}},
		{"the empty text is new", texts("a"), []impl.Cell{null, text(""), text("a"), text("")},
			impl.Plan{Action: impl.DictDelta, Fresh: texts(""), Values: texts("a", "")}},
		{"the empty text alone", nil, []impl.Cell{text("")},
			impl.Plan{Action: impl.DictDelta, Fresh: texts(""), Values: texts("")}},
		{"so many that it is full", half, cellsOf(others[:impl.MaxDict/2]),
			impl.Plan{Action: impl.DictDelta, Fresh: others[:impl.MaxDict/2], Values: slices.Concat(half, others[:impl.MaxDict/2])}},
		{"one too many", half, cellsOf(others[:impl.MaxDict/2+1]),
			impl.Plan{Action: impl.DictReplace, Fresh: others[:impl.MaxDict/2+1], Values: others[:impl.MaxDict/2+1]}},
		{"one that has no room, with old ones", full, []impl.Cell{text("t105"), text("new"), null, text("t101"), text("new"), text("t105")},
			impl.Plan{Action: impl.DictReplace, Fresh: texts("t105", "new", "t101"), Values: texts("t105", "new", "t101")}},
		{"the empty text has no room", full, []impl.Cell{text("")},
			impl.Plan{Action: impl.DictReplace, Fresh: texts(""), Values: texts("")}},
		{"all others", full, cellsOf(others[:impl.MaxDict]),
			impl.Plan{Action: impl.DictReplace, Fresh: others[:impl.MaxDict], Values: others[:impl.MaxDict]}},
	}
	for _, c := range cases {
		if got, code := impl.PlanDict(c.values, c.cells); code != impl.CodeOK || !samePlan(got, c.want) {
			t.Errorf("%s: %d, %q, %q, %d; want %d, %q, %q", c.what, got.Action, got.Fresh, got.Values, code, c.want.Action, c.want.Fresh, c.want.Values)
		}
		checkPlan(t, c.values, c.cells)
	}
	checkNoPlan(t, nil, cellsOf(others), impl.CodeFull)
	checkNoPlan(t, full, cellsOf(others), impl.CodeFull)
	checkNoPlan(t, full, cellsOf(slices.Concat(full, texts("new"))), impl.CodeFull)
	checkNoPlan(t, full, cellsOf(slices.Concat(texts(""), full)), impl.CodeFull)
}

// P4
func TestPlansOfShortLists(t *testing.T) {
	words := texts("", "a", "b", "aa")
	choices := append(cellsOf(words), null)
	for length := range 4 {
		listsOver(words, length, func(values [][]byte) {
			for rows := range 5 {
				listsOver(choices, rows, func(cells []impl.Cell) {
					if dictByHand(values) {
						checkPlan(t, values, cells)
					} else {
						checkNoPlan(t, values, cells, impl.CodeBad)
					}
				})
			}
		})
	}
}

// P4
func TestPlansByNumberOfTexts(t *testing.T) {
	for have := range impl.MaxDict + 1 {
		values := numbered(have)
		for added := range impl.MaxDict + 2 {
			for _, again := range []int{0, 1, have} {
				if again > have {
					continue
				}
				old := cellsOf(values[have-again:])
				fresh := cellsOf(othersNumbered(added))
				checkPlan(t, values, slices.Concat(old, fresh))
				checkPlan(t, values, slices.Concat(fresh, []impl.Cell{null}, old))
			}
		}
	}
}

// P4
func TestPlansByBytesOfTexts(t *testing.T) {
	x, y := strings.Repeat("x", impl.MaxTexts+1), strings.Repeat("y", impl.MaxTexts+1)
	for _, have := range []int{0, 1, 1500, impl.MaxTexts - 2, impl.MaxTexts - 1, impl.MaxTexts} {
		values := texts(x[:have])
		for _, added := range []int{0, 1, 2, 2499, 2500, 2501, impl.MaxTexts - 1, impl.MaxTexts, impl.MaxTexts + 1} {
			for _, also := range []impl.Cell{null, text(x[:have]), text("z"), text("")} {
				checkPlan(t, values, []impl.Cell{text(y[:added]), also})
				checkPlan(t, values, []impl.Cell{also, text(y[:added]), text(y[:added])})
			}
		}
	}
	most, more := texts(x[:impl.MaxTexts]), texts(x[:impl.MaxTexts], "y")
	if got, code := impl.PlanDict(texts("z"), cellsOf(most)); code != impl.CodeOK || got.Action != impl.DictReplace || !sameLists(got.Values, most) {
		t.Errorf("MaxTexts bytes: %d, %d", got.Action, code)
	}
	checkNoPlan(t, texts("z"), cellsOf(more), impl.CodeFull)
	checkNoPlan(t, most, cellsOf(more), impl.CodeFull)
	checkNoPlan(t, nil, []impl.Cell{text(x)}, impl.CodeFull)
	checkNoPlan(t, nil, slices.Repeat([]impl.Cell{text(x)}, impl.MaxRows), impl.CodeFull)
	checkPlan(t, most, slices.Repeat(cellsOf(most), impl.MaxRows))
	checkPlan(t, nil, slices.Repeat(cellsOf(most), impl.MaxRows))
}

// P4
func TestPlansByNumberOfCells(t *testing.T) {
	values := numbered(impl.MaxDict)
	for _, c := range []impl.Cell{null, text(""), text("new"), {Text: values[3]}} {
		most := slices.Repeat([]impl.Cell{c}, impl.MaxRows)
		for _, dict := range [][][]byte{nil, values, texts("")} {
			checkPlan(t, dict, most)
			checkNoPlan(t, dict, append(slices.Clone(most), c), impl.CodeBad)
			checkNoPlan(t, dict, append(slices.Clone(most), null), impl.CodeBad)
		}
	}
	checkNoPlan(t, nil, cellsOf(numbered(impl.MaxRows)), impl.CodeFull)
	checkNoPlan(t, nil, cellsOf(numbered(impl.MaxRows+1)), impl.CodeBad)
	last := append(slices.Repeat([]impl.Cell{null}, impl.MaxRows-1), text("last"))
	if got, code := impl.PlanDict(nil, last); code != impl.CodeOK || !sameLists(got.Fresh, texts("last")) {
		t.Errorf("the last of MaxRows cells: %q, %d", got.Fresh, code)
	}
}

// P4
func TestPlansOfWrongCells(t *testing.T) {
	wrong := []impl.Cell{number(1), number(-1), number(math.MinInt), {N: 1, Text: []byte("a")}, {Null: true, N: 1},
		{Null: true, Text: []byte("a")}, {Null: true, N: -1, Text: []byte("b")}}
	full := numbered(impl.MaxDict)
	for _, c := range wrong {
		for at := range 4 {
			cells := []impl.Cell{text("a"), null, text("b"), text("a")}
			cells[at] = c
			for _, values := range [][][]byte{nil, texts("a", "b"), full} {
				checkNoPlan(t, values, cells, impl.CodeBad)
			}
		}
		checkNoPlan(t, full, append(cellsOf(othersNumbered(impl.MaxDict+1)), c), impl.CodeBad)
	}
}

func wrongDictionaries() [][][]byte {
	most := strings.Repeat("x", impl.MaxTexts)
	return [][][]byte{numbered(impl.MaxDict + 1), texts("a", "a"), texts("", "b", ""), {nil, {}}, texts(most, "y"), texts(most + "x")}
}

// P4
func TestPlansOfWrongDictionary(t *testing.T) {
	for _, values := range wrongDictionaries() {
		for _, cells := range [][]impl.Cell{nil, {null}, {text("a")}, {text("new")}, {number(1)}, cellsOf(numbered(impl.MaxDict + 1))} {
			checkNoPlan(t, values, cells, impl.CodeBad)
		}
	}
}

// P4: two sides that start alike stay alike, whatever tables come.
func TestPlansOneAfterAnother(t *testing.T) {
	long := strings.Repeat("w", 700)
	var values [][]byte
	actions := map[int]int{}
	seed := uint32(1)
	below := func(n int) int {
		seed = seed*1664525 + 1013904223
		return int(seed>>8) % n
	}
	for range 3000 {
		words := numbered(impl.MaxDict)
		if below(8) == 0 {
			words = othersNumbered(impl.MaxDict)
		}
		var cells []impl.Cell
		for range below(25) {
			switch below(6) {
			case 0:
				cells = append(cells, null)
			case 1:
				cells = append(cells, text(long[:below(700)]))
			default:
				cells = append(cells, impl.Cell{Text: words[below(len(words))]})
			}
		}
		next := checkPlan(t, values, cells)
		if plan, code := impl.PlanDict(values, cells); code == impl.CodeOK {
			actions[plan.Action]++
			values = next
		}
	}
	if actions[impl.DictKeep] < 20 || actions[impl.DictDelta] < 20 || actions[impl.DictReplace] < 20 {
		t.Errorf("how often each action: %v", actions)
	}
}

// P4
func TestApplyEachAction(t *testing.T) {
	checkApplied(t, nil, impl.DictKeep, nil, nil)
	checkApplied(t, texts("b", "", "a"), impl.DictKeep, nil, texts("b", "", "a"))
	checkApplied(t, texts("b"), impl.DictKeep, [][]byte{}, texts("b"))
	checkApplied(t, nil, impl.DictDelta, texts("a"), texts("a"))
	checkApplied(t, texts("b", "a"), impl.DictDelta, texts("d", "c"), texts("b", "a", "d", "c"))
	checkApplied(t, texts("b"), impl.DictDelta, texts(""), texts("b", ""))
	checkApplied(t, texts(""), impl.DictDelta, texts("a"), texts("", "a"))
	checkApplied(t, nil, impl.DictReplace, nil, nil)
	checkApplied(t, texts("b", "a"), impl.DictReplace, nil, nil)
	checkApplied(t, texts("b", "a"), impl.DictReplace, texts("a", "c"), texts("a", "c"))
	checkApplied(t, texts("b"), impl.DictReplace, texts("b"), texts("b"))
	checkApplied(t, texts("b"), impl.DictReplace, texts(""), texts(""))

	checkNotApplied(t, nil, impl.DictKeep, texts("a"), impl.CodeCorrupt)
	checkNotApplied(t, texts("b"), impl.DictKeep, texts("a"), impl.CodeCorrupt)
	checkNotApplied(t, texts("b"), impl.DictKeep, texts("b"), impl.CodeCorrupt)
	checkNotApplied(t, texts("b"), impl.DictKeep, texts(""), impl.CodeCorrupt)
	checkNotApplied(t, texts("b"), impl.DictKeep, [][]byte{nil}, impl.CodeCorrupt)
	checkNotApplied(t, nil, impl.DictDelta, nil, impl.CodeCorrupt)
	checkNotApplied(t, texts("b"), impl.DictDelta, [][]byte{}, impl.CodeCorrupt)
	checkNotApplied(t, texts("b"), impl.DictDelta, texts("a", "a"), impl.CodeCorrupt)
	checkNotApplied(t, texts("b"), impl.DictDelta, texts("", "a", ""), impl.CodeCorrupt)
	checkNotApplied(t, texts("c", "b"), impl.DictDelta, texts("a", "b"), impl.CodeCorrupt)
	checkNotApplied(t, texts(""), impl.DictDelta, [][]byte{nil}, impl.CodeCorrupt)
	checkNotApplied(t, texts("b"), impl.DictReplace, texts("a", "a"), impl.CodeCorrupt)
	checkNotApplied(t, nil, impl.DictReplace, texts("", ""), impl.CodeCorrupt)
}

// P4
func TestApplyShortLists(t *testing.T) {
	words := texts("", "a", "b")
	for length := range 5 {
		listsOver(words, length, func(list [][]byte) {
			for cut := range length + 1 {
				values, fresh := list[:cut], list[cut:]
				for action := -1; action <= 3; action++ {
					switch {
					case action < 0 || action > 2 || !dictByHand(values):
						checkNotApplied(t, values, action, fresh, impl.CodeBad)
					case action == impl.DictKeep && len(fresh) == 0:
						checkApplied(t, values, action, fresh, values)
					case action == impl.DictDelta && len(fresh) > 0 && dictByHand(list):
						checkApplied(t, values, action, fresh, list)
					case action == impl.DictReplace && dictByHand(fresh):
						checkApplied(t, values, action, fresh, fresh)
					default:
						checkNotApplied(t, values, action, fresh, impl.CodeCorrupt)
					}
				}
			}
		})
	}
}

// P4
func TestApplyAtTheLimits(t *testing.T) {
	many := numbered(impl.MaxDict + 1)
	full := many[:impl.MaxDict]
	for have := range impl.MaxDict {
		checkApplied(t, many[:have], impl.DictDelta, many[have:impl.MaxDict], full)
		checkNotApplied(t, many[:have], impl.DictDelta, many[have:], impl.CodeCorrupt)
	}
	checkNotApplied(t, full, impl.DictDelta, texts("new"), impl.CodeCorrupt)
	checkNotApplied(t, full, impl.DictDelta, texts(""), impl.CodeCorrupt)
	checkApplied(t, full, impl.DictKeep, nil, full)
	checkApplied(t, full, impl.DictReplace, full, full)
	checkNotApplied(t, full, impl.DictReplace, many, impl.CodeCorrupt)
	checkNotApplied(t, nil, impl.DictReplace, many, impl.CodeCorrupt)
	x := strings.Repeat("x", impl.MaxTexts+1)
	for _, have := range []int{0, 1, 2000, impl.MaxTexts - 1} {
		rest := strings.Repeat("y", impl.MaxTexts-have)
		checkApplied(t, texts(x[:have]), impl.DictDelta, texts(rest), texts(x[:have], rest))
		checkNotApplied(t, texts(x[:have]), impl.DictDelta, texts(rest+"y"), impl.CodeCorrupt)
		checkNotApplied(t, texts(x[:have]), impl.DictDelta, texts(rest, "z"), impl.CodeCorrupt)
	}
	most := texts(x[:impl.MaxTexts])
	checkApplied(t, most, impl.DictDelta, texts(""), texts(x[:impl.MaxTexts], ""))
	checkNotApplied(t, most, impl.DictDelta, texts("y"), impl.CodeCorrupt)
	checkApplied(t, most, impl.DictReplace, most, most)
	checkNotApplied(t, nil, impl.DictReplace, texts(x), impl.CodeCorrupt)
	checkNotApplied(t, nil, impl.DictReplace, texts(x[:impl.MaxTexts], "y"), impl.CodeCorrupt)
}

// P4
func TestApplyWrongArguments(t *testing.T) {
	for _, action := range []int{-1, 3, 4, 256, 257, math.MinInt, math.MaxInt, 1 << 32} {
		for _, fresh := range [][][]byte{nil, texts("b"), texts("b", "b")} {
			checkNotApplied(t, nil, action, fresh, impl.CodeBad)
			checkNotApplied(t, texts("a"), action, fresh, impl.CodeBad)
		}
	}
	for _, values := range wrongDictionaries() {
		for action := -1; action <= 3; action++ {
			for _, fresh := range [][][]byte{nil, texts("new"), texts("a"), texts("b", "b"), numbered(impl.MaxDict + 1)} {
				checkNotApplied(t, values, action, fresh, impl.CodeBad)
			}
		}
	}
}

// checkListsApart writes into every place of one list: the other must stay as it is.
func checkListsApart(t *testing.T, a, b [][]byte) {
	t.Helper()
	was := copyLists(b)
	for i := range a[:cap(a)] {
		a[:cap(a)][i] = []byte("written")
	}
	if !sameLists(was, b) {
		t.Error("two lists share their places")
	}
}

func TestDictionariesAreNewMemory(t *testing.T) {
	full := numbered(impl.MaxDict)
	for _, values := range [][][]byte{texts("one", "two", ""), full} {
		for _, cells := range [][]impl.Cell{{{Text: values[0]}, null}, {text("new"), {Text: values[1]}, text("more"), text("new")}} {
			given := slices.Clone(values)
			for _, c := range cells {
				given = append(given, c.Text)
			}
			plan, code := impl.PlanDict(values, cells)
			if code != impl.CodeOK {
				t.Fatalf("%q: %d", values, code)
			}
			next, code := impl.ApplyDict(values, plan.Action, plan.Fresh)
			if code != impl.CodeOK {
				t.Fatalf("%q: %d", values, code)
			}
			checkApart(t, slices.Clone(next), slices.Concat(given, plan.Fresh, plan.Values))
			checkApart(t, slices.Concat(plan.Fresh, plan.Values), given)
			checkListsApart(t, next, values)
			checkListsApart(t, next, plan.Fresh)
			checkListsApart(t, plan.Fresh, plan.Values)
			checkListsApart(t, plan.Values, values)
		}
	}
}

func TestDictionariesLeaveArgumentsAsTheyWere(t *testing.T) {
	room := texts("x", "y", "z")
	for _, have := range []int{2, impl.MaxDict - 1, impl.MaxDict} {
		list := slices.Concat(numbered(have), room)
		for i := range list {
			list[i] = withRoom(list[i], 9)
		}
		fresh := slices.Concat(othersNumbered(2), room)
		cells := append(cellsOf(fresh), null, null)
		cells[3] = null
		listWas, freshWas, cellsWere := copyLists(list), copyLists(fresh), copyCells(cells)
		for rows := range 5 {
			impl.PlanDict(list[:have], cells[:rows])
			for action := -1; action <= 3; action++ {
				impl.ApplyDict(list[:have], action, fresh[:rows])
			}
		}
		impl.ValidDict(list[:have])
		if !sameLists(list, listWas) || !sameLists(fresh, freshWas) || !sameCells(cells, cellsWere) {
			t.Errorf("%d texts: an argument, or what stands behind it, was written", have)
		}
		for _, b := range list {
			if behind := b[len(b) : len(b)+9]; !bytes.Equal(behind, bytes.Repeat([]byte{0xaa}, 9)) {
				t.Errorf("%d texts: bytes behind an argument were written", have)
			}
		}
	}
}

func TestDictConstants(t *testing.T) {
	got := []int{impl.DictKeep, impl.DictDelta, impl.DictReplace}
	if want := []int{0, 1, 2}; !slices.Equal(got, want) {
		t.Errorf("%v, want %v", got, want)
	}
}
