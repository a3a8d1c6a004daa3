package tests

import (
	"bytes"
	"math"
	"slices"
	"strconv"
	"strings"
	"testing"

	"loop.example/s01316/impl"
)

var null = impl.Cell{Null: true}

func number(n int) impl.Cell { return impl.Cell{N: n} }

func text(s string) impl.Cell { return impl.Cell{Text: []byte(s)} }

func texts(list ...string) [][]byte {
	var out [][]byte
	for _, s := range list {
		out = append(out, []byte(s))
	}
	return out
}

// numbered are n different texts of the same length.
func numbered(n int) [][]byte {
	var out [][]byte
	for i := range n {
		out = append(out, []byte("t"+strconv.Itoa(100+i)))
	}
	return out
}

func cellsOf(list [][]byte) []impl.Cell {
	var cells []impl.Cell
	for _, s := range list {
		cells = append(cells, impl.Cell{Text: s})
	}
	return cells
}

func ofKind(kind, width int) impl.Field {
	return impl.Field{Name: []byte("f"), Kind: kind, Width: width}
}

func named(name string) impl.Field {
	return impl.Field{Name: []byte(name), Kind: impl.KindBool}
}

// everyField has a field of each kind and width.
func everyField() []impl.Field {
	fields := []impl.Field{ofKind(impl.KindBool, 0), ofKind(impl.KindText, 0), ofKind(impl.KindDict, 0)}
	for _, width := range widths {
		fields = append(fields, ofKind(impl.KindInt, width))
	}
	return fields
}

func sameCells(a, b []impl.Cell) bool {
	return slices.EqualFunc(a, b, func(x, y impl.Cell) bool {
		return x.Null == y.Null && x.N == y.N && bytes.Equal(x.Text, y.Text)
	})
}

func copyCells(cells []impl.Cell) []impl.Cell {
	out := slices.Clone(cells)
	for i := range out {
		out[i].Text = bytes.Clone(out[i].Text)
	}
	return out
}

func copyLists(lists [][]byte) [][]byte {
	out := slices.Clone(lists)
	for i := range out {
		out[i] = bytes.Clone(out[i])
	}
	return out
}

func sameLists(a, b [][]byte) bool { return slices.EqualFunc(a, b, bytes.Equal) }

// packBitsByHand needs none of the program's functions.
func packBitsByHand(bits []bool) []byte {
	b := make([]byte, (len(bits)+7)/8)
	for i, bit := range bits {
		if bit {
			b[i/8] += byte([]int{1, 2, 4, 8, 16, 32, 64, 128}[i%8])
		}
	}
	return b
}

// buffersByHand are the document's buffers of cells that are valid for the field.
func buffersByHand(f impl.Field, cells []impl.Cell, values [][]byte) [][]byte {
	var present, bits []bool
	var numbers, places []int
	ends := []int{0}
	var joined []byte
	for _, c := range cells {
		present = append(present, !c.Null)
		bits = append(bits, c.N == 1)
		numbers = append(numbers, c.N)
		place := 0
		if !c.Null {
			place = slices.IndexFunc(values, func(v []byte) bool { return bytes.Equal(v, c.Text) })
		}
		places = append(places, place)
		joined = append(joined, c.Text...)
		ends = append(ends, len(joined))
	}
	var validity []byte
	if slices.Contains(present, false) {
		validity = packBitsByHand(present)
	}
	switch f.Kind {
	case impl.KindBool:
		return [][]byte{validity, packBitsByHand(bits)}
	case impl.KindInt:
		return [][]byte{validity, packModulo(numbers, f.Width)}
	case impl.KindDict:
		return [][]byte{validity, packModulo(places, 1)}
	}
	return [][]byte{validity, packModulo(ends, 4), joined}
}

func checkColumnComesBack(t *testing.T, f impl.Field, cells []impl.Cell, values [][]byte) {
	t.Helper()
	want := buffersByHand(f, cells, values)
	got, code := impl.BuildColumn(f, cells, values)
	if code != impl.CodeOK || !sameLists(got, want) {
		t.Fatalf("BuildColumn(%v, %v, %q) = %x, %d; want %x", f, cells, values, got, code, want)
	}
	back, code := impl.ReadColumn(f, len(cells), want, values)
	if code != impl.CodeOK || !sameCells(back, cells) {
		t.Fatalf("ReadColumn(%v, %d, %x, %q) = %v, %d; want %v", f, len(cells), want, values, back, code, cells)
	}
}

func checkNotBuilt(t *testing.T, f impl.Field, cells []impl.Cell, values [][]byte) {
	t.Helper()
	if got, code := impl.BuildColumn(f, cells, values); code != impl.CodeBad || len(got) != 0 {
		t.Errorf("BuildColumn(%v, %d cells, %d texts) = %x, %d; want none, CodeBad", f, len(cells), len(values), got, code)
	}
}

func checkNotRead(t *testing.T, f impl.Field, rows int, buffers, values [][]byte, want int) {
	t.Helper()
	if got, code := impl.ReadColumn(f, rows, buffers, values); code != want || len(got) != 0 {
		t.Errorf("ReadColumn(%v, %d, %x, %q) = %v, %d; want none, %d", f, rows, buffers, values, got, code, want)
	}
}

// checkReadIsBuilt holds an answer of ReadColumn against the document: the cells are valid and make just these buffers.
func checkReadIsBuilt(t *testing.T, f impl.Field, rows int, buffers, values [][]byte) bool {
	t.Helper()
	cells, code := impl.ReadColumn(f, rows, buffers, values)
	if code == impl.CodeCorrupt && len(cells) == 0 {
		return false
	}
	good := code == impl.CodeOK && len(cells) == rows
	for _, c := range cells {
		good = good && validByHand(f, c) && (f.Kind != impl.KindDict || c.Null || listHas(values, c.Text))
	}
	if !good || !sameLists(buffersByHand(f, cells, values), buffers) {
		t.Fatalf("ReadColumn(%v, %d, %x, %q) = %v, %d", f, rows, buffers, values, cells, code)
	}
	return true
}

func listHas(list [][]byte, s []byte) bool {
	return slices.ContainsFunc(list, func(x []byte) bool { return bytes.Equal(x, s) })
}

func validByHand(f impl.Field, c impl.Cell) bool {
	if c.Null {
		return c.N == 0 && len(c.Text) == 0
	}
	switch f.Kind {
	case impl.KindBool:
		return c.N >= 0 && c.N <= 1 && len(c.Text) == 0
	case impl.KindInt:
		least, most := limits(f.Width)
		return c.N >= least && c.N <= most && len(c.Text) == 0
	}
	return c.N == 0
}

// listsOver calls do with every list of n choices.
func listsOver[T any](choices []T, n int, do func([]T)) {
	if n == 0 {
		do(nil)
		return
	}
	listsOver(choices, n-1, func(rest []T) {
		for _, c := range choices {
			do(append(slices.Clone(rest), c))
		}
	})
}

func TestFieldNames(t *testing.T) {
	for length := range impl.MaxName + 3 {
		want := length >= 1 && length <= impl.MaxName
		if got := impl.ValidFields([]impl.Field{named(strings.Repeat("n", length))}); got != want {
			t.Errorf("a name of %d bytes: %v", length, got)
		}
	}
	const good = "abcdefghijklmnopqrstuvwxyzABCDEFGHIJKLMNOPQRSTUVWXYZ0123456789_"
	for c := range 256 {
		want := strings.IndexByte(good, byte(c)) >= 0
		for _, name := range [][]byte{{byte(c)}, {'a', byte(c)}, {byte(c), 'a'}, {'_', byte(c), '0'}} {
			if got := impl.ValidFields([]impl.Field{{Name: name}}); got != want {
				t.Errorf("the name %q: %v", name, got)
			}
		}
	}
}

func TestFieldKindsAndWidths(t *testing.T) {
	for _, kind := range []int{math.MinInt, -1, 0, 1, 2, 3, 4, 5, 256, math.MaxInt} {
		for _, width := range append(slices.Clone(otherWidths), widths...) {
			want := kind == impl.KindInt && slices.Contains(widths, width) ||
				kind >= 0 && kind <= 3 && kind != impl.KindInt && width == 0
			f := ofKind(kind, width)
			if got := impl.ValidFields([]impl.Field{f}); got != want {
				t.Errorf("kind %d, width %d: %v", kind, width, got)
			}
			if !want {
				checkNotBuilt(t, f, nil, nil)
				checkNotRead(t, f, 0, texts("", ""), nil, impl.CodeBad)
			}
		}
	}
}

func TestFieldsTogether(t *testing.T) {
	var fields []impl.Field
	for i := range impl.MaxFields + 1 {
		fields = append(fields, named("f"+strconv.Itoa(i)))
	}
	for n := range fields {
		if got := impl.ValidFields(fields[:n]); got != (n > 0) {
			t.Errorf("%d fields: %v", n, got)
		}
	}
	if impl.ValidFields(fields) {
		t.Error("one field more than MaxFields")
	}
	for i := range impl.MaxFields {
		twelve := slices.Clone(fields[:impl.MaxFields])
		twelve[i] = named("no name")
		if impl.ValidFields(twelve) {
			t.Errorf("field %d has no valid name", i)
		}
		for j := range i {
			twelve[i] = impl.Field{Name: []byte("f" + strconv.Itoa(j)), Kind: impl.KindInt, Width: 4}
			if impl.ValidFields(twelve) {
				t.Errorf("fields %d and %d have one name", j, i)
			}
		}
	}
	if !impl.ValidFields([]impl.Field{named("a"), named("A"), named("aa"), named("a_")}) {
		t.Error("four names")
	}
}

// fourFields has one field of each kind.
func fourFields() []impl.Field {
	return []impl.Field{
		{Name: []byte("b"), Kind: impl.KindBool},
		{Name: []byte("i"), Kind: impl.KindInt, Width: 2},
		{Name: []byte("t"), Kind: impl.KindText},
		{Name: []byte("d"), Kind: impl.KindDict},
	}
}

func checkTable(t *testing.T, what string, fields []impl.Field, rows int, cells []impl.Cell, want bool) {
	t.Helper()
	if got := impl.ValidTable(fields, impl.Table{Rows: rows, Cells: cells}); got != want {
		t.Errorf("%s: %v", what, got)
	}
}

func TestTableRowsAndCells(t *testing.T) {
	fields := fourFields()
	for _, rows := range []int{0, 1, 2, impl.MaxRows - 1, impl.MaxRows} {
		checkTable(t, "as many cells", fields, rows, make([]impl.Cell, 4*rows), true)
		checkTable(t, "a cell more", fields, rows, make([]impl.Cell, 4*rows+1), false)
		checkTable(t, "a row more", fields, rows, make([]impl.Cell, 4*rows+4), false)
		if rows > 0 {
			checkTable(t, "a cell less", fields, rows, make([]impl.Cell, 4*rows-1), false)
			checkTable(t, "no cells", fields, rows, nil, false)
		}
	}
	checkTable(t, "a row too many", fields, impl.MaxRows+1, make([]impl.Cell, 4*impl.MaxRows+4), false)
	for _, rows := range []int{-1, -4, math.MinInt, math.MinInt + 1, math.MaxInt, 1 << 62, 1 << 61} {
		checkTable(t, strconv.Itoa(rows), fields, rows, nil, false)
		checkTable(t, strconv.Itoa(rows), fields, rows, make([]impl.Cell, 4), false)
	}
	checkTable(t, "no fields", nil, 0, nil, false)
	checkTable(t, "fields that are not valid", []impl.Field{named("a"), named("a")}, 0, nil, false)
	checkTable(t, "fields that are not valid", []impl.Field{ofKind(9, 0)}, 1, make([]impl.Cell, 1), false)
}

// oddCells has cells around every edge, for all kinds of field.
func oddCells() []impl.Cell {
	cells := []impl.Cell{null, text(""), text("x"), text("\x00\xff"), {N: 1, Text: []byte("x")}, {Null: true, N: 1},
		{Null: true, Text: []byte("x")}, {Null: true, N: -1, Text: []byte("x")}, {Text: []byte{}}, {Null: true, Text: []byte{}}}
	for _, n := range []int{0, 1, 2, -1, 255, 256, math.MinInt, math.MaxInt} {
		cells = append(cells, number(n))
	}
	for _, width := range widths {
		least, most := limits(width)
		cells = append(cells, number(least), number(most), number(least-1), number(most+1), number(least+1))
	}
	return cells
}

func TestCellsOfEachKind(t *testing.T) {
	values := texts("", "x", "\x00\xff")
	for _, f := range everyField() {
		for _, c := range oddCells() {
			want := validByHand(f, c)
			for at := range 3 {
				cells := []impl.Cell{null, null, null}
				cells[at] = c
				checkTable(t, "a cell of an odd kind", []impl.Field{f}, 3, cells, want)
				if want {
					checkColumnComesBack(t, f, cells, values)
				} else {
					checkNotBuilt(t, f, cells, values)
				}
			}
		}
	}
}

func TestTableCellsStandFieldByField(t *testing.T) {
	fields := fourFields()
	good := []impl.Cell{number(1), null, number(-300), number(7), text("long"), text(""), null, text("d")}
	checkTable(t, "two rows", fields, 2, good, true)
	for at := range good {
		for _, wrong := range []impl.Cell{{Null: true, N: 1}, {N: 1, Text: []byte("x")}} {
			cells := slices.Clone(good)
			cells[at] = wrong
			checkTable(t, "wrong at "+strconv.Itoa(at), fields, 2, cells, false)
		}
	}
	rowByRow := []impl.Cell{number(1), number(-300), text("long"), null, null, number(7), text(""), text("d")}
	checkTable(t, "row by row", fields, 2, rowByRow, false)
}

func TestTableTexts(t *testing.T) {
	fields := fourFields()
	row := func(a, b int) []impl.Cell {
		return []impl.Cell{null, null, text(strings.Repeat("x", a)), text(strings.Repeat("y", b))}
	}
	for _, a := range []int{0, 1, 2000, impl.MaxTexts - 1, impl.MaxTexts} {
		checkTable(t, "MaxTexts bytes", fields, 1, row(a, impl.MaxTexts-a), true)
		checkTable(t, "a byte more", fields, 1, row(a+1, impl.MaxTexts-a), false)
		checkTable(t, "a byte more", fields, 1, row(a, impl.MaxTexts-a+1), false)
	}
	wide := []impl.Field{{Name: []byte("s"), Kind: impl.KindText}, {Name: []byte("t"), Kind: impl.KindText}}
	cells := cellsOf(texts(slices.Repeat([]string{strings.Repeat("z", 20)}, 200)...))
	checkTable(t, "200 texts of 20 bytes", wide, 100, cells, true)
	cells[150] = text(strings.Repeat("z", 21))
	checkTable(t, "a byte more", wide, 100, cells, false)
}

func TestTableDictionaries(t *testing.T) {
	one := []impl.Field{{Name: []byte("d"), Kind: impl.KindDict}}
	two := append(slices.Clone(one), impl.Field{Name: []byte("e"), Kind: impl.KindDict})
	many := cellsOf(numbered(80))
	most := slices.Clone(many[:impl.MaxDict])
	checkTable(t, "MaxDict texts", one, impl.MaxDict, most, true)
	checkTable(t, "one more", one, impl.MaxDict+1, many[:impl.MaxDict+1], false)
	checkTable(t, "the empty text more", one, impl.MaxDict+1, append(slices.Clone(most), text("")), false)
	checkTable(t, "MaxDict texts and a Null", one, impl.MaxDict+1, append(slices.Clone(most), null), true)
	checkTable(t, "MaxDict texts twice", one, 2*impl.MaxDict, append(slices.Clone(most), most...), true)
	checkTable(t, "MaxDict texts in each field", two, impl.MaxDict, many, true)
	checkTable(t, "one more in the second", two, impl.MaxDict+1, append(append(slices.Clone(most), null), many[:impl.MaxDict+1]...), false)
	asText := []impl.Field{{Name: []byte("t"), Kind: impl.KindText}}
	checkTable(t, "other texts have no dictionary", asText, 80, many, true)
}

// P3
func TestColumnsComeBack(t *testing.T) {
	values := texts("red", "", "blue", "\x00\xff")
	choices := map[int][]impl.Cell{
		impl.KindBool: {null, number(0), number(1)},
		impl.KindText: {null, text(""), text("a"), text("bc\x00")},
		impl.KindDict: {null, text("red"), text(""), text("blue"), text("\x00\xff")},
	}
	for _, f := range everyField() {
		list := choices[f.Kind]
		if f.Kind == impl.KindInt {
			least, most := limits(f.Width)
			list = []impl.Cell{null, number(0), number(least), number(most), number(-2), number(1)}
		}
		for rows := range 5 {
			listsOver(list, rows, func(cells []impl.Cell) { checkColumnComesBack(t, f, cells, values) })
		}
	}
}

// P3
func TestLongColumnsComeBack(t *testing.T) {
	values := numbered(impl.MaxDict)
	for _, f := range everyField() {
		for _, rows := range []int{7, 8, 9, 16, 17, 64, 65, impl.MaxRows - 1, impl.MaxRows} {
			for gap := range 9 {
				cells := make([]impl.Cell, rows)
				for i := range cells {
					switch {
					case gap > 0 && i%gap == 0:
						cells[i] = null
					case f.Kind == impl.KindBool:
						cells[i].N = i / 3 % 2
					case f.Kind == impl.KindInt:
						cells[i].N = i - 50
					default:
						cells[i].Text = values[i*7%len(values)]
					}
				}
				checkColumnComesBack(t, f, cells, values)
			}
		}
	}
}

// P3
func TestColumnsAtTheEdges(t *testing.T) {
	for _, f := range everyField() {
		checkColumnComesBack(t, f, nil, nil)
		checkColumnComesBack(t, f, []impl.Cell{}, [][]byte{})
		checkColumnComesBack(t, f, []impl.Cell{null}, nil)
		checkColumnComesBack(t, f, slices.Repeat([]impl.Cell{null}, impl.MaxRows), nil)
		checkColumnComesBack(t, f, slices.Repeat([]impl.Cell{{}}, impl.MaxRows), texts(""))
		checkNotBuilt(t, f, slices.Repeat([]impl.Cell{null}, impl.MaxRows+1), nil)
		checkNotBuilt(t, f, make([]impl.Cell, impl.MaxRows+1), texts(""))
	}
	words, dict := ofKind(impl.KindText, 0), ofKind(impl.KindDict, 0)
	most := strings.Repeat("x", impl.MaxTexts)
	checkColumnComesBack(t, words, []impl.Cell{text(most)}, nil)
	checkColumnComesBack(t, words, []impl.Cell{text(most), text("x")}, nil)
	checkColumnComesBack(t, dict, []impl.Cell{text(most)}, texts(most))
	checkColumnComesBack(t, dict, slices.Repeat([]impl.Cell{text(most)}, impl.MaxRows), texts("", most))
	checkColumnComesBack(t, dict, cellsOf(numbered(impl.MaxDict)), numbered(impl.MaxDict))
}

// The document sets no limit to the texts of BuildColumn, but their ends must fit into four bytes.
func TestColumnOfTextsBeyondOffsets(t *testing.T) {
	long := impl.Cell{Text: make([]byte, math.MaxInt32/impl.MaxRows+1)}
	checkNotBuilt(t, ofKind(impl.KindText, 0), slices.Repeat([]impl.Cell{long}, impl.MaxRows), nil)
}

// P3
func TestColumnsOfWrongDictionary(t *testing.T) {
	most := strings.Repeat("x", impl.MaxTexts)
	wrong := [][][]byte{numbered(impl.MaxDict + 1), texts("a", "a"), texts("", "b", ""), texts(most, "y"), texts(most + "x")}
	for _, f := range everyField() {
		for _, values := range wrong {
			checkNotBuilt(t, f, nil, values)
			checkNotBuilt(t, f, []impl.Cell{null}, values)
			checkNotRead(t, f, 0, buffersByHand(f, nil, nil), values, impl.CodeBad)
			checkNotRead(t, f, 0, nil, values, impl.CodeBad)
		}
		checkColumnComesBack(t, f, nil, texts(most, ""))
		checkColumnComesBack(t, f, nil, numbered(impl.MaxDict))
	}
	dict := ofKind(impl.KindDict, 0)
	for _, missing := range []string{"green", "", "re", "redd", "Red"} {
		checkNotBuilt(t, dict, []impl.Cell{text("red"), text(missing)}, texts("red", "blue"))
		checkNotBuilt(t, dict, []impl.Cell{text(missing), null}, texts("red", "blue"))
		checkNotBuilt(t, dict, []impl.Cell{text(missing)}, nil)
	}
}

// P3
func TestColumnsOfWrongRows(t *testing.T) {
	for _, f := range everyField() {
		for _, rows := range []int{-1, impl.MaxRows + 1, math.MinInt, math.MaxInt} {
			checkNotRead(t, f, rows, nil, nil, impl.CodeBad)
			checkNotRead(t, f, rows, buffersByHand(f, nil, nil), nil, impl.CodeBad)
		}
		full := make([]impl.Cell, impl.MaxRows+1)
		checkNotRead(t, f, impl.MaxRows+1, buffersByHand(f, full, texts("")), texts(""), impl.CodeBad)
		for rows := range impl.MaxRows + 1 {
			if rows != 9 && (rows < 9 || rows > 16 || f.Kind != impl.KindBool) {
				checkNotRead(t, f, rows, buffersByHand(f, full[:9], texts("")), texts(""), impl.CodeCorrupt)
			}
		}
	}
	for _, name := range []string{"", "a-b", strings.Repeat("n", impl.MaxName+1)} {
		checkNotBuilt(t, named(name), nil, nil)
		checkNotRead(t, named(name), 0, texts("", ""), nil, impl.CodeBad)
	}
}

// P3
func TestColumnsOfWrongNumberOfBuffers(t *testing.T) {
	values := texts("x", "")
	for _, f := range everyField() {
		for _, cells := range [][]impl.Cell{nil, {null}, {{}}, {{}, null}} {
			good := buffersByHand(f, cells, values)
			for n := range good {
				checkNotRead(t, f, len(cells), good[:n], values, impl.CodeCorrupt)
			}
			for _, more := range []string{"", "\x00", "x"} {
				checkNotRead(t, f, len(cells), append(slices.Clone(good), []byte(more)), values, impl.CodeCorrupt)
			}
			checkNotRead(t, f, len(cells), good[1:], values, impl.CodeCorrupt)
		}
	}
}

// P3
func TestColumnsThatNoCellsMake(t *testing.T) {
	flag, short := ofKind(impl.KindBool, 0), ofKind(impl.KindInt, 2)
	words, dict := ofKind(impl.KindText, 0), ofKind(impl.KindDict, 0)
	offsets := func(ends ...int) string { return string(packModulo(ends, 4)) }
	cases := []struct {
		what    string
		f       impl.Field
		rows    int
		buffers []string
	}{
		{"a validity with no Null", flag, 2, []string{"\x03", "\x01"}},
		{"a validity with no Null", short, 1, []string{"\x01", "\x00\x00"}},
		{"a validity with no Null", words, 1, []string{"\x01", offsets(0, 1), "a"}},
		{"a validity with no Null", dict, 8, []string{"\xff", "\x00\x00\x00\x00\x00\x00\x00\x00"}},
		{"a validity with a bit too many", flag, 2, []string{"\x05", "\x01"}},
		{"a validity with a bit too many", words, 1, []string{"\x02", offsets(0, 0), ""}},
		{"a validity with a byte too many", short, 1, []string{"\x00\x00", "\x00\x00"}},
		{"a validity of no cells", flag, 0, []string{"\x00", ""}},
		{"a validity with a byte too few", short, 9, []string{"\x0f", strings.Repeat("\x00", 18)}},
		{"a bool behind a Null", flag, 2, []string{"\x01", "\x02"}},
		{"a number behind a Null", short, 2, []string{"\x02", "\x00\x80\x00\x00"}},
		{"a text behind a Null", words, 2, []string{"\x01", offsets(0, 1, 2), "ab"}},
		{"a place behind a Null", dict, 2, []string{"\x01", "\x00\x01"}},
		{"bools with a bit too many", flag, 2, []string{"", "\x04"}},
		{"bools with a byte too many", flag, 8, []string{"", "\x00\x00"}},
		{"numbers with a byte too few", short, 2, []string{"", "\x00\x00\x00"}},
		{"numbers with one too many", short, 2, []string{"", "\x00\x00\x00\x00\x00\x00"}},
		{"no offsets", words, 0, []string{"", "", ""}},
		{"offsets without the first", words, 1, []string{"", offsets(1), "a"}},
		{"offsets with one too many", words, 1, []string{"", offsets(0, 1, 1), "a"}},
		{"offsets with a byte too many", words, 1, []string{"", offsets(0, 1) + "\x00", "a"}},
		{"offsets that do not start at 0", words, 1, []string{"", offsets(1, 2), "ab"}},
		{"offsets that do not start at 0", words, 0, []string{"", offsets(1), "a"}},
		{"offsets that go down", words, 2, []string{"", offsets(0, 2, 1), "ab"}},
		{"offsets that go down and up", words, 3, []string{"", offsets(0, 2, 1, 2), "ab"}},
		{"offsets below 0", words, 2, []string{"", offsets(0, -1, 1), "a"}},
		{"offsets below 0", words, 1, []string{"", offsets(-1, 1), "a"}},
		{"offsets beyond the texts", words, 1, []string{"", offsets(0, 2), "a"}},
		{"offsets far beyond the texts", words, 1, []string{"", offsets(0, math.MaxInt32), "a"}},
		{"offsets that end ahead of the texts", words, 1, []string{"", offsets(0, 1), "ab"}},
		{"texts of no cells", words, 0, []string{"", offsets(0), "a"}},
		{"a place outside the dictionary", dict, 2, []string{"", "\x00\x02"}},
		{"a place below 0", dict, 1, []string{"", "\xff"}},
		{"a place below 0", dict, 1, []string{"", "\x80"}},
		{"places with one too many", dict, 1, []string{"", "\x00\x00"}},
		{"places with one too few", dict, 2, []string{"", "\x00"}},
	}
	for _, c := range cases {
		if got, code := impl.ReadColumn(c.f, c.rows, texts(c.buffers...), texts("red", "blue")); code != impl.CodeCorrupt || len(got) != 0 {
			t.Errorf("%s: %v, %d", c.what, got, code)
		}
	}
	checkNotRead(t, dict, 1, texts("", "\x00"), nil, impl.CodeCorrupt)
}

// shortLists has every list of at most one byte, and some of two.
func shortLists() []string {
	lists := []string{"", "\x00\x00", "\x01\x00", "\x00\x01", "\xff\xff", "\xfe\x00"}
	for c := range 256 {
		lists = append(lists, string([]byte{byte(c)}))
	}
	return lists
}

// P3
func TestBitColumnsTakeBuiltBuffersOnly(t *testing.T) {
	lists := shortLists()
	for rows, want := range []int{1, 3, 9, 27} {
		taken := 0
		for _, validity := range lists {
			for _, bits := range lists {
				if checkReadIsBuilt(t, ofKind(impl.KindBool, 0), rows, texts(validity, bits), nil) {
					taken++
				}
			}
		}
		if taken != want {
			t.Errorf("%d rows: %d columns, want %d", rows, taken, want)
		}
	}
}

// P3
func TestNumberColumnsTakeBuiltBuffersOnly(t *testing.T) {
	values := texts("a", "", "b")
	for _, kind := range []int{impl.KindInt, impl.KindDict} {
		f, each := ofKind(kind, 0), len(values)
		if kind == impl.KindInt {
			f, each = ofKind(kind, 1), 256
		}
		taken := 0
		for _, validity := range shortLists() {
			for _, numbers := range shortLists() {
				if checkReadIsBuilt(t, f, 1, texts(validity, numbers), values) {
					taken++
				}
				checkReadIsBuilt(t, f, 0, texts(validity, numbers), values)
				checkReadIsBuilt(t, f, 2, texts(validity, numbers), values)
			}
		}
		if taken != each+1 {
			t.Errorf("kind %d: %d columns of one row, want %d", kind, taken, each+1)
		}
	}
}

// P3
func TestTextColumnsTakeBuiltBuffersOnly(t *testing.T) {
	f := ofKind(impl.KindText, 0)
	ends := []int{-1, 0, 1, 2, 3, math.MinInt32, math.MaxInt32, 256}
	taken := 0
	for length := range 5 {
		listsOver(ends, length, func(list []int) {
			for rows := range 4 {
				for _, validity := range []string{"", "\x00", "\x01", "\x02", "\x03", "\x04", "\x05", "\x06", "\x07", "\x08"} {
					for _, joined := range []string{"", "a", "ab"} {
						buffers := [][]byte{[]byte(validity), packModulo(list, 4), []byte(joined)}
						if checkReadIsBuilt(t, f, rows, buffers, nil) {
							taken++
						}
					}
				}
			}
		})
	}
	// The columns of at most three rows whose texts are together "", "a" or "ab", counted by hand.
	want := 0
	for rows := range 4 {
		listsOver([]impl.Cell{null, text(""), text("x"), text("yy")}, rows, func(cells []impl.Cell) {
			size := 0
			for _, c := range cells {
				size += len(c.Text)
			}
			if size <= 2 {
				want++
			}
		})
	}
	if taken != want {
		t.Errorf("%d columns, want %d", taken, want)
	}
}

// P3
func TestColumnsWithOneBitChanged(t *testing.T) {
	values := texts("x", "", "yz")
	for _, f := range everyField() {
		cells := []impl.Cell{null, {}, null, {}, {}, {}, {}, {}, null}
		if f.Kind == impl.KindText || f.Kind == impl.KindDict {
			cells[3], cells[7] = text("x"), text("yz")
		} else {
			cells[3], cells[7] = number(1), number(1)
		}
		good := buffersByHand(f, cells, values)
		for k := range good {
			for bit := range 8 * len(good[k]) {
				spoilt := copyLists(good)
				spoilt[k][bit/8] ^= 1 << (bit % 8)
				if checkReadIsBuilt(t, f, len(cells), spoilt, values) {
					if got, _ := impl.ReadColumn(f, len(cells), spoilt, values); sameCells(got, cells) {
						t.Errorf("%v: bit %d of buffer %d is not seen", f, bit, k)
					}
				}
			}
		}
	}
}

// fill writes into the whole of a list's memory, its room too.
func fill(b []byte) {
	for i := range b[:cap(b)] {
		b[:cap(b)][i] = 0xee
	}
}

// checkApart writes into each list in turn: no other may change, and none of the arguments.
func checkApart(t *testing.T, lists, arguments [][]byte) {
	t.Helper()
	was := copyLists(arguments)
	for i, list := range lists {
		rest := copyLists(lists[i+1:])
		fill(list)
		if !sameLists(rest, lists[i+1:]) {
			t.Errorf("list %d shares memory with another list of the answer", i)
		}
	}
	if !sameLists(was, arguments) {
		t.Error("the answer shares memory with an argument")
	}
}

func TestColumnsAreNewMemory(t *testing.T) {
	values := texts("one", "two", "")
	for _, f := range everyField() {
		cells := []impl.Cell{null, {}, {}, {}, {}, {}}
		if f.Kind == impl.KindText || f.Kind == impl.KindDict {
			cells = []impl.Cell{null, text("one"), text("two"), text("one"), text(""), text("one")}
		}
		buffers, code := impl.BuildColumn(f, cells, values)
		if code != impl.CodeOK {
			t.Fatalf("%v: %d", f, code)
		}
		given := copyLists(buffers)
		back, code := impl.ReadColumn(f, len(cells), given, values)
		if code != impl.CodeOK || !sameCells(back, cells) {
			t.Fatalf("%v: %v, %d", f, back, code)
		}
		var in, out [][]byte
		for i := range cells {
			in, out = append(in, cells[i].Text), append(out, back[i].Text)
		}
		checkApart(t, buffers, slices.Concat(values, in))
		checkApart(t, out, slices.Concat(values, given))
	}
}

func TestColumnsLeaveArgumentsAsTheyWere(t *testing.T) {
	values := [][]byte{withRoom([]byte("one"), 9), withRoom([]byte("two"), 9), withRoom(nil, 9)}
	valuesWere := copyLists(values)
	for _, f := range everyField() {
		cells := []impl.Cell{null, {}, {}}
		if f.Kind == impl.KindText || f.Kind == impl.KindDict {
			cells = []impl.Cell{{Text: values[1]}, null, {Text: values[0]}}
		}
		cellsWere := copyCells(cells)
		buffers := buffersByHand(f, cells, values)
		for i := range buffers {
			buffers[i] = withRoom(buffers[i], 9)
		}
		buffersWere := copyLists(buffers)
		impl.ValidTable([]impl.Field{f}, impl.Table{Rows: 3, Cells: cells})
		impl.BuildColumn(f, cells, values)
		impl.ReadColumn(f, 3, buffers, values)
		if !sameCells(cells, cellsWere) || !sameLists(buffers, buffersWere) || !sameLists(values, valuesWere) || string(f.Name) != "f" {
			t.Errorf("%v: an argument was written", f)
		}
		for _, b := range slices.Concat(buffers, values) {
			if room := b[len(b) : len(b)+9]; !bytes.Equal(room, bytes.Repeat([]byte{0xaa}, 9)) {
				t.Errorf("%v: bytes behind an argument were written", f)
			}
		}
	}
}

func TestColumnConstants(t *testing.T) {
	got := []int{impl.KindBool, impl.KindInt, impl.KindText, impl.KindDict, impl.MaxFields, impl.MaxName, impl.MaxRows, impl.MaxTexts, impl.MaxDict}
	if want := []int{0, 1, 2, 3, 12, 20, 100, 4000, 40}; !slices.Equal(got, want) {
		t.Errorf("%v, want %v", got, want)
	}
}
