package tests

import (
	"bytes"
	"encoding/binary"
	"fmt"
	"hash/crc32"
	"math"
	"slices"
	"strconv"
	"strings"
	"testing"

	"loop.example/s01316/impl"
)

// sealed is b with the checksum of it behind it.
func sealed(b []byte) []byte {
	return binary.LittleEndian.AppendUint32(bytes.Clone(b), crc32.ChecksumIEEE(b))
}

// unsealed is b without its checksum.
func unsealed(b []byte) []byte { return bytes.Clone(b[:len(b)-4]) }

// short is the beginning of how v prints.
func short(v any) string {
	s := fmt.Sprintf("%v", v)
	return s[:min(len(s), 300)]
}

// messageByHand has the document's bytes of a message; it needs none of the program's functions.
func messageByHand(m impl.Message) []byte {
	b := []byte{67, 77, byte(m.Kind), byte(m.Field), byte(m.Count % 256), byte(m.Count / 256), byte(len(m.Buffers)), 0}
	for _, buffer := range m.Buffers {
		b = binary.LittleEndian.AppendUint32(b, uint32(len(buffer)))
	}
	b = append(b, make([]byte, len(m.Buffers)%2*4)...)
	for _, buffer := range m.Buffers {
		b = append(b, buffer...)
		b = append(b, make([]byte, (8-len(buffer)%8)%8)...)
	}
	return sealed(b)
}

func sameMessage(a, b impl.Message) bool {
	return a.Kind == b.Kind && a.Field == b.Field && a.Count == b.Count && sameLists(a.Buffers, b.Buffers)
}

func checkMessageComesBack(t *testing.T, m impl.Message) {
	t.Helper()
	want := messageByHand(m)
	if got := impl.EncodeMessage(m); !bytes.Equal(got, want) {
		t.Fatalf("EncodeMessage(%s) = %.200x; want %.200x", short(m), got, want)
	}
	if got, code := impl.DecodeMessage(want); code != impl.CodeOK || !sameMessage(got, m) {
		t.Fatalf("DecodeMessage(%.200x) = %s, %d; want %s", want, short(got), code, short(m))
	}
}

func checkNotEncoded(t *testing.T, m impl.Message) {
	t.Helper()
	if got := impl.EncodeMessage(m); len(got) != 0 {
		t.Errorf("EncodeMessage(%s) has %d bytes; want none", short(m), len(got))
	}
}

func checkNotDecoded(t *testing.T, b []byte) {
	t.Helper()
	if got, code := impl.DecodeMessage(b); code != impl.CodeCorrupt || !sameMessage(got, impl.Message{}) {
		t.Errorf("DecodeMessage(%.200x) = %s, %d; want none, CodeCorrupt", b, short(got), code)
	}
}

// validMessageByHand leaves the size of the message out of it.
func validMessageByHand(m impl.Message) bool {
	fields := 1
	if m.Kind == impl.MsgReplace || m.Kind == impl.MsgDelta {
		fields = impl.MaxFields
	}
	return m.Kind >= 1 && m.Kind <= 4 && m.Field >= 0 && m.Field < fields &&
		m.Count >= 0 && m.Count <= impl.MaxCount && len(m.Buffers) <= impl.MaxBuffers
}

// checkDecodedIsEncoded holds an answer of DecodeMessage against the document: there is a valid message with just these bytes.
func checkDecodedIsEncoded(t *testing.T, b []byte) bool {
	t.Helper()
	m, code := impl.DecodeMessage(b)
	if code == impl.CodeCorrupt && sameMessage(m, impl.Message{}) {
		return false
	}
	if code != impl.CodeOK || !validMessageByHand(m) || len(b) > impl.MaxBuffer || !bytes.Equal(messageByHand(m), b) {
		t.Fatalf("DecodeMessage(%.200x) = %s, %d", b, short(m), code)
	}
	return true
}

// everyMessage has messages of each kind, with the least and the greatest numbers.
func everyMessage() []impl.Message {
	lists := [][][]byte{nil, {nil}, texts("a"), texts("12345678"), texts("", "abc", "123456789"), texts("", "", "", ""), numbered(impl.MaxBuffers)}
	var messages []impl.Message
	for _, count := range []int{0, 1, 255, 256, 257, impl.MaxCount} {
		for _, buffers := range lists {
			messages = append(messages, impl.Message{Kind: impl.MsgHeader, Count: count, Buffers: buffers},
				impl.Message{Kind: impl.MsgBatch, Count: count, Buffers: buffers})
			for _, field := range []int{0, 1, impl.MaxFields - 1} {
				messages = append(messages, impl.Message{Kind: impl.MsgReplace, Field: field, Count: count, Buffers: buffers},
					impl.Message{Kind: impl.MsgDelta, Field: field, Count: count, Buffers: buffers})
			}
		}
	}
	return messages
}

// P5
func TestMessagesComeBack(t *testing.T) {
	for _, m := range everyMessage() {
		checkMessageComesBack(t, m)
	}
	for a := range 18 {
		for b := range 18 {
			buffers := [][]byte{bytes.Repeat([]byte{1}, a), bytes.Repeat([]byte{0}, b), bytes.Repeat([]byte{0xff}, a)}
			checkMessageComesBack(t, impl.Message{Kind: impl.MsgBatch, Count: a * b, Buffers: buffers})
		}
	}
	for n := range impl.MaxBuffers + 1 {
		checkMessageComesBack(t, impl.Message{Kind: impl.MsgDelta, Field: n % impl.MaxFields, Count: n, Buffers: numbered(n)})
		checkMessageComesBack(t, impl.Message{Kind: impl.MsgHeader, Count: n, Buffers: make([][]byte, n)})
	}
	for count := range impl.MaxCount + 1 {
		checkMessageComesBack(t, impl.Message{Kind: impl.MsgBatch, Count: count, Buffers: texts("", "x")})
	}
}

// P5
func TestMessagesByteByByte(t *testing.T) {
	m := impl.Message{Kind: impl.MsgDelta, Field: 11, Count: 0x0302, Buffers: [][]byte{{0xaa}, nil, bytes.Repeat([]byte{0xbb}, 8)}}
	want := []byte{'C', 'M', 3, 11, 2, 3, 3, 0,
		1, 0, 0, 0, 0, 0, 0, 0,
		8, 0, 0, 0, 0, 0, 0, 0,
		0xaa, 0, 0, 0, 0, 0, 0, 0,
		0xbb, 0xbb, 0xbb, 0xbb, 0xbb, 0xbb, 0xbb, 0xbb}
	if got := impl.EncodeMessage(m); !bytes.Equal(got, sealed(want)) {
		t.Errorf("%x", got)
	}
	empty := impl.Message{Kind: impl.MsgHeader}
	if got := impl.EncodeMessage(empty); !bytes.Equal(got, sealed([]byte{67, 77, 1, 0, 0, 0, 0, 0})) {
		t.Errorf("%x", got)
	}
	long := impl.Message{Kind: impl.MsgBatch, Buffers: [][]byte{make([]byte, 0x1234)}}
	if got := impl.EncodeMessage(long); len(got) != 8+8+0x1238+4 || !bytes.Equal(got[8:16], []byte{0x34, 0x12, 0, 0, 0, 0, 0, 0}) {
		t.Errorf("%d bytes, %x", len(got), got[:16])
	}
}

// P5
func TestMessagesThatAreNotValid(t *testing.T) {
	wrong := []int{math.MinInt, -257, -256, -255, -1, 256, 257, 259, 1 << 16, 1 << 32, math.MaxInt}
	for _, kind := range append([]int{0, 5, 6}, wrong...) {
		for field := range impl.MaxFields {
			checkNotEncoded(t, impl.Message{Kind: kind, Field: field})
		}
	}
	for _, kind := range []int{impl.MsgHeader, impl.MsgReplace, impl.MsgDelta, impl.MsgBatch} {
		for _, field := range append([]int{impl.MaxFields, impl.MaxFields + 1, 255}, wrong...) {
			checkNotEncoded(t, impl.Message{Kind: kind, Field: field})
		}
		for _, count := range append([]int{impl.MaxCount + 1, impl.MaxCount + 2, 65535, 65536 + 1}, wrong[:5]...) {
			checkNotEncoded(t, impl.Message{Kind: kind, Count: count})
		}
		for _, count := range []int{1 << 32, math.MaxInt} {
			checkNotEncoded(t, impl.Message{Kind: kind, Count: count})
		}
		for _, n := range []int{impl.MaxBuffers + 1, 255, 256, 257, 5000} {
			checkNotEncoded(t, impl.Message{Kind: kind, Buffers: make([][]byte, n)})
		}
	}
	for field := 1; field <= impl.MaxFields; field++ {
		checkNotEncoded(t, impl.Message{Kind: impl.MsgHeader, Field: field})
		checkNotEncoded(t, impl.Message{Kind: impl.MsgBatch, Field: field})
	}
}

// P5: the greatest message has 4 bytes less than MaxBuffer, as all parts but the checksum are aligned.
func TestMessagesAtTheGreatestSize(t *testing.T) {
	const room = impl.MaxBuffer - 4 - 8 - 4
	for n := 1; n <= impl.MaxBuffers; n++ {
		free := room - (4*n+7)/8*8
		for _, first := range []int{0, 8, 800} {
			if n == 1 {
				first = 0
			}
			buffers := make([][]byte, n)
			buffers[0] = bytes.Repeat([]byte{7}, first)
			buffers[n-1] = bytes.Repeat([]byte{9}, free-first)
			m := impl.Message{Kind: impl.MsgBatch, Buffers: buffers}
			if len(messageByHand(m)) != impl.MaxBuffer-4 {
				t.Fatalf("%d buffers: %d bytes", n, len(messageByHand(m)))
			}
			checkMessageComesBack(t, m)
			buffers[n-1] = append(buffers[n-1], 9)
			checkNotEncoded(t, m)
			checkNotDecoded(t, messageByHand(m))
		}
	}
	for _, size := range []int{impl.MaxBuffer - 24, impl.MaxBuffer - 25, impl.MaxBuffer - 31} {
		checkMessageComesBack(t, impl.Message{Kind: impl.MsgHeader, Buffers: [][]byte{make([]byte, size)}})
	}
	for _, size := range []int{impl.MaxBuffer - 23, impl.MaxBuffer - 1, impl.MaxBuffer, impl.MaxBuffer + 1, 1 << 20} {
		m := impl.Message{Kind: impl.MsgHeader, Buffers: [][]byte{make([]byte, size)}}
		checkNotEncoded(t, m)
		checkNotDecoded(t, messageByHand(m))
	}
	great := make([]byte, 1<<28)
	checkNotEncoded(t, impl.Message{Kind: impl.MsgBatch, Buffers: slices.Repeat([][]byte{great}, impl.MaxBuffers)})
}

// P5
func TestMessagesCutShortOrWithMoreBehind(t *testing.T) {
	for _, m := range everyMessage() {
		whole := messageByHand(m)
		for n := range len(whole) {
			checkNotDecoded(t, whole[:n])
		}
		body := unsealed(whole)
		for n := range len(body) {
			checkNotDecoded(t, sealed(body[:n]))
		}
		for more := 1; more <= 17; more++ {
			checkNotDecoded(t, append(bytes.Clone(whole), make([]byte, more)...))
			checkNotDecoded(t, sealed(append(bytes.Clone(body), make([]byte, more)...)))
		}
		checkNotDecoded(t, sealed(whole))
		checkNotDecoded(t, append(bytes.Clone(whole), whole...))
	}
	for _, b := range [][]byte{nil, {}, {0}, make([]byte, 12), make([]byte, impl.MaxBuffer), make([]byte, impl.MaxBuffer+1), []byte("CM")} {
		checkNotDecoded(t, b)
		checkNotDecoded(t, sealed(b))
	}
}

// P5
func TestMessagesWithOneBitChanged(t *testing.T) {
	for _, m := range everyMessage() {
		if m.Count%2 == 1 {
			continue
		}
		b := messageByHand(m)
		for bit := range 8 * len(b) {
			b[bit/8] ^= 1 << (bit % 8)
			checkNotDecoded(t, b)
			b[bit/8] ^= 1 << (bit % 8)
		}
	}
}

// P5
func TestMessagesTakeEncodedBytesOnly(t *testing.T) {
	taken := 0
	for _, m := range everyMessage() {
		if m.Count != 257 || m.Field != 0 {
			continue
		}
		body := unsealed(messageByHand(m))
		for at := range min(len(body), 64) {
			was := body[at]
			for x := range 256 {
				body[at] = byte(x)
				if checkDecodedIsEncoded(t, sealed(body)) {
					taken++
				}
			}
			body[at] = was
		}
	}
	if taken < 1000 {
		t.Errorf("%d are taken", taken)
	}
}

// P5
func TestMessagesWithOtherParts(t *testing.T) {
	good := messageByHand(impl.Message{Kind: impl.MsgReplace, Field: 2, Count: 3, Buffers: texts("abc", "12345678")})
	changed := func(at int, to ...byte) []byte {
		body := unsealed(good)
		copy(body[at:], to)
		return sealed(body)
	}
	if !checkDecodedIsEncoded(t, changed(0, 'C', 'M')) {
		t.Error("the message itself")
	}
	for _, b := range [][]byte{
		changed(0, 'M', 'C'), changed(0, 'c', 'm'), changed(1, 0),
		changed(2, 0), changed(2, 5), changed(2, 255), changed(2, impl.MsgHeader), changed(2, impl.MsgBatch),
		changed(3, impl.MaxFields), changed(3, 255),
		changed(4, 0xe9, 3), changed(4, 0xff, 0xff),
		changed(6, 0), changed(6, 1), changed(6, 3), changed(6, 4), changed(6, 41), changed(6, 255), changed(7, 1), changed(7, 0x80),
		changed(8, 2), changed(8, 9), changed(8, 11), changed(8, 0xff, 0xff, 0xff, 0xff), changed(11, 0x80),
		changed(12, 7), changed(12, 9), changed(12, 16), changed(12, 0, 0, 0, 0x80), changed(12, 0xff, 0xff, 0xff, 0x7f),
		changed(19, 1), changed(23, 1), changed(20, 0x80),
	} {
		checkNotDecoded(t, b)
	}
	for _, to := range [][]byte{{2, impl.MsgDelta}, {3, 0}, {3, impl.MaxFields - 1}, {4, 0}, {16, 0}, {18, 0xff}, {24, 0}, {31, 0}} {
		if !checkDecodedIsEncoded(t, changed(int(to[0]), to[1])) {
			t.Errorf("byte %d as %d", to[0], to[1])
		}
	}
	odd := unsealed(messageByHand(impl.Message{Kind: impl.MsgBatch, Buffers: texts("abc")}))
	for at := 12; at < 16; at++ {
		b := bytes.Clone(odd)
		b[at] = 1
		checkNotDecoded(t, sealed(b))
	}
}

// diceOf gives numbers below n that look thrown, the same ones in every run.
func diceOf(seed uint32) func(n int) int {
	return func(n int) int {
		seed = seed*1664525 + 1013904223
		return int(seed>>8) % n
	}
}

// P5
func TestMessagesOfThrownBytes(t *testing.T) {
	below := diceOf(4)
	taken := 0
	for range 30000 {
		n := below(4)
		b := []byte{67, 77, byte(1 + below(4)), byte(below(2)), byte(below(3)), 0, byte(n), 0}
		for range n {
			b = append(b, byte(below(12)), 0, 0, 0)
		}
		b = append(b, make([]byte, n%2*4)...)
		for range below(5) {
			part := make([]byte, 8)
			for i := range below(9) {
				part[i] = byte(below(256))
			}
			b = append(b, part...)
		}
		if checkDecodedIsEncoded(t, sealed(b)) {
			taken++
		}
	}
	if taken < 300 {
		t.Errorf("%d are taken", taken)
	}
}

func sameFields(a, b []impl.Field) bool {
	return slices.EqualFunc(a, b, func(x, y impl.Field) bool {
		return x.Kind == y.Kind && x.Width == y.Width && bytes.Equal(x.Name, y.Name)
	})
}

func sameStream(a, b impl.Stream) bool {
	return a.Open == b.Open && a.Next == b.Next && sameFields(a.Fields, b.Fields) && slices.EqualFunc(a.Dicts, b.Dicts, sameLists)
}

func sameTables(a, b []impl.Table) bool {
	return slices.EqualFunc(a, b, func(x, y impl.Table) bool { return x.Rows == y.Rows && sameCells(x.Cells, y.Cells) })
}

func copyStream(s impl.Stream) impl.Stream {
	s.Fields = slices.Clone(s.Fields)
	for i := range s.Fields {
		s.Fields[i].Name = bytes.Clone(s.Fields[i].Name)
	}
	s.Dicts = slices.Clone(s.Dicts)
	for i := range s.Dicts {
		s.Dicts[i] = copyLists(s.Dicts[i])
	}
	return s
}

// openOf is the open stream with these fields; its dictionaries are those of the map, the others empty.
func openOf(fields []impl.Field, next int, dicts map[int][][]byte) impl.Stream {
	s := impl.Stream{Open: true, Fields: fields, Next: next, Dicts: make([][][]byte, len(fields))}
	for i, values := range dicts {
		s.Dicts[i] = values
	}
	return copyStream(s)
}

// field has the width 4 for numbers.
func field(name string, kind int) impl.Field {
	f := impl.Field{Name: []byte(name), Kind: kind}
	if kind == impl.KindInt {
		f.Width = 4
	}
	return f
}

// manyFields are n fields of one kind.
func manyFields(n, kind int) []impl.Field {
	var fields []impl.Field
	for i := range n {
		fields = append(fields, field("f"+strconv.Itoa(i), kind))
	}
	return fields
}

// mixedFields has each kind of column, among them two of KindDict.
func mixedFields() []impl.Field {
	return []impl.Field{field("d", impl.KindDict), field("b", impl.KindBool), field("t", impl.KindText), field("i", impl.KindInt), field("e", impl.KindDict)}
}

func checkStream(t *testing.T, what string, s impl.Stream, want bool) {
	t.Helper()
	if got := impl.ValidStream(s); got != want {
		t.Errorf("%s: ValidStream(%s) = %v", what, short(s), got)
	}
	if want {
		return
	}
	for _, b := range [][]byte{nil, messageByHand(impl.Message{Kind: impl.MsgBatch}), headerByHand(fourFields(), 0)} {
		if got, tables, code := impl.ReadMessage(s, b); code != impl.CodeBad || len(tables) != 0 || !sameStream(got, impl.Stream{}) {
			t.Errorf("%s: ReadMessage = %s, %d tables, %d", what, short(got), len(tables), code)
		}
	}
	for _, table := range []impl.Table{{}, {Rows: 1, Cells: make([]impl.Cell, len(s.Fields))}, {Rows: -1}} {
		checkNotWritten(t, s, table, impl.CodeBad)
	}
}

func checkNotWritten(t *testing.T, s impl.Stream, table impl.Table, want int) {
	t.Helper()
	if got, messages, code := impl.WriteTable(s, table); code != want || len(messages) != 0 || !sameStream(got, impl.Stream{}) {
		t.Errorf("WriteTable(%s, %d rows) = %s, %d messages, %d; want none, %d", short(s), table.Rows, short(got), len(messages), code, want)
	}
}

func TestStreamsThatAreNotOpen(t *testing.T) {
	checkStream(t, "zero", impl.Stream{}, true)
	checkStream(t, "empty lists", impl.Stream{Fields: []impl.Field{}, Dicts: [][][]byte{}}, true)
	for _, s := range []impl.Stream{{Next: 1}, {Next: -1}, {Next: impl.MaxIndex}, {Fields: fourFields()}, {Fields: make([]impl.Field, 1)},
		{Dicts: make([][][]byte, 1)}, {Dicts: make([][][]byte, 4)}, {Fields: fourFields(), Dicts: make([][][]byte, 4)},
		{Fields: fourFields(), Next: 3, Dicts: make([][][]byte, 4)}} {
		checkStream(t, "not open", s, false)
	}
	for _, table := range []impl.Table{{}, {Rows: 1, Cells: make([]impl.Cell, 1)}} {
		checkNotWritten(t, impl.Stream{}, table, impl.CodeBad)
	}
}

func TestStreamsThatAreOpen(t *testing.T) {
	checkStream(t, "all else zero", impl.Stream{Open: true}, false)
	for _, next := range []int{0, 1, impl.MaxIndex - 1, impl.MaxIndex} {
		checkStream(t, "Next", openOf(mixedFields(), next, nil), true)
	}
	for _, next := range []int{-1, impl.MaxIndex + 1, math.MinInt, math.MaxInt, 1 << 32} {
		checkStream(t, "Next", openOf(mixedFields(), next, nil), false)
	}
	for _, fields := range [][]impl.Field{nil, {named("a"), named("a")}, {ofKind(4, 0)}, {ofKind(impl.KindInt, 3)}, {named("")}, manyFields(impl.MaxFields+1, impl.KindDict)} {
		checkStream(t, "fields", openOf(fields, 0, nil), false)
	}
	checkStream(t, "MaxFields", openOf(manyFields(impl.MaxFields, impl.KindDict), 0, nil), true)
	for n := range 8 {
		s := openOf(mixedFields(), 0, nil)
		s.Dicts = make([][][]byte, n)
		checkStream(t, "number of dictionaries", s, n == 5)
	}
}

func TestStreamsDictionaries(t *testing.T) {
	good := [][][]byte{texts(""), texts("a", "", "b"), numbered(impl.MaxDict), texts(strings.Repeat("x", impl.MaxTexts))}
	for _, values := range good {
		for i, f := range mixedFields() {
			s := openOf(mixedFields(), 0, map[int][][]byte{i: values})
			checkStream(t, "dictionary of "+string(f.Name), s, f.Kind == impl.KindDict)
		}
		checkStream(t, "two", openOf(mixedFields(), 0, map[int][][]byte{0: values, 4: values}), true)
	}
	for _, values := range wrongDictionaries() {
		for i := range mixedFields() {
			checkStream(t, "wrong dictionary", openOf(mixedFields(), 0, map[int][][]byte{i: values}), false)
		}
		checkStream(t, "wrong dictionary", openOf(mixedFields(), 0, map[int][][]byte{0: texts("a"), 4: values}), false)
	}
	s := openOf(mixedFields(), 0, nil)
	for i := range s.Dicts {
		s.Dicts[i] = [][]byte{}
	}
	checkStream(t, "empty dictionaries", s, true)
}

func headerMessage(fields []impl.Field, next int) impl.Message {
	buffers := [][]byte{binary.LittleEndian.AppendUint64(nil, uint64(next))}
	for _, f := range fields {
		buffers = append(buffers, append([]byte{byte(f.Kind), byte(f.Width)}, f.Name...))
	}
	return impl.Message{Kind: impl.MsgHeader, Count: len(fields), Buffers: buffers}
}

func headerByHand(fields []impl.Field, next int) []byte {
	return messageByHand(headerMessage(fields, next))
}

func checkStarts(t *testing.T, fields []impl.Field, next int) {
	t.Helper()
	want := openOf(fields, next, nil)
	s, header, code := impl.StartStream(fields, next)
	if code != impl.CodeOK || !sameStream(s, want) || !bytes.Equal(header, headerByHand(fields, next)) {
		t.Fatalf("StartStream(%v, %d) = %v, %x, %d", fields, next, s, header, code)
	}
	if !impl.ValidStream(s) {
		t.Fatalf("%v is not valid", s)
	}
	r, tables, code := impl.ReadMessage(impl.Stream{}, header)
	if code != impl.CodeOK || len(tables) != 0 || !sameStream(r, want) {
		t.Fatalf("ReadMessage(%x) = %v, %d tables, %d", header, r, len(tables), code)
	}
}

// P6
func TestStartStream(t *testing.T) {
	full := manyFields(impl.MaxFields, impl.KindDict)
	for i := range full {
		full[i].Name = []byte(strings.Repeat(string(rune('a'+i)), impl.MaxName))
	}
	lists := [][]impl.Field{fourFields(), mixedFields(), full}
	for _, f := range everyField() {
		lists = append(lists, []impl.Field{f})
	}
	for _, fields := range lists {
		for _, next := range []int{0, 1, 255, 256, 65536, 1 << 24, impl.MaxIndex - 1, impl.MaxIndex} {
			checkStarts(t, fields, next)
		}
	}
	for n := 1; n <= impl.MaxFields; n++ {
		checkStarts(t, full[:n], n)
	}
}

func checkNotStarted(t *testing.T, fields []impl.Field, next int) {
	t.Helper()
	if s, header, code := impl.StartStream(fields, next); code != impl.CodeBad || len(header) != 0 || !sameStream(s, impl.Stream{}) {
		t.Errorf("StartStream(%v, %d) = %v, %x, %d; want none, CodeBad", fields, next, s, header, code)
	}
}

func TestStartStreamWithWrongArguments(t *testing.T) {
	for _, next := range []int{-1, impl.MaxIndex + 1, math.MinInt, math.MaxInt, 1 << 32} {
		checkNotStarted(t, fourFields(), next)
	}
	for _, fields := range [][]impl.Field{nil, {}, {named("a"), named("a")}, {named("")}, {named("a-b")}, {ofKind(4, 0)}, {ofKind(-1, 0)},
		{ofKind(impl.KindInt, 0)}, {ofKind(impl.KindBool, 1)}, {ofKind(256, 0)}, {ofKind(impl.KindInt, 257)},
		{named(strings.Repeat("a", impl.MaxName+1))}, manyFields(impl.MaxFields+1, impl.KindText)} {
		for _, next := range []int{0, -1, impl.MaxIndex} {
			checkNotStarted(t, fields, next)
		}
	}
}

func columnOf(table impl.Table, i int) []impl.Cell {
	return table.Cells[i*table.Rows : (i+1)*table.Rows]
}

func textsMessage(kind, at int, fresh [][]byte) impl.Message {
	buffers := buffersByHand(field("t", impl.KindText), cellsOf(fresh), nil)
	return impl.Message{Kind: kind, Field: at, Count: len(fresh), Buffers: buffers[1:]}
}

func batchMessage(s impl.Stream, table impl.Table) impl.Message {
	m := impl.Message{Kind: impl.MsgBatch, Count: table.Rows}
	for i, f := range s.Fields {
		m.Buffers = append(m.Buffers, buffersByHand(f, columnOf(table, i), s.Dicts[i])...)
	}
	return m
}

// writeByHand is the document's WriteTable of a stream and a table that are valid.
func writeByHand(s impl.Stream, table impl.Table) (impl.Stream, [][]byte) {
	s = copyStream(s)
	var messages [][]byte
	for i, f := range s.Fields {
		if f.Kind != impl.KindDict {
			continue
		}
		plan, _ := planByHand(s.Dicts[i], columnOf(table, i))
		switch plan.Action {
		case impl.DictDelta:
			messages = append(messages, messageByHand(textsMessage(impl.MsgDelta, i, plan.Fresh)))
		case impl.DictReplace:
			messages = append(messages, messageByHand(textsMessage(impl.MsgReplace, i, plan.Fresh)))
		}
		s.Dicts[i] = plan.Values
	}
	s.Next++
	return s, append(messages, messageByHand(batchMessage(s, table)))
}

// checkWritten lets the messages of a table be written and read on the other side; it answers the stream behind them.
func checkWritten(t *testing.T, s impl.Stream, table impl.Table) impl.Stream {
	t.Helper()
	want, wantMessages := writeByHand(s, table)
	next, messages, code := impl.WriteTable(s, table)
	if code != impl.CodeOK || !sameLists(messages, wantMessages) || !sameStream(next, want) {
		t.Fatalf("WriteTable(%s, %s) = %s, %.200x, %d; want %s, %.200x", short(s), short(table), short(next), messages, code, short(want), wantMessages)
	}
	if !impl.ValidStream(next) {
		t.Fatalf("%s is not valid", short(next))
	}
	other := copyStream(s)
	for i, b := range messages {
		if len(b) == 0 || len(b) > impl.MaxBuffer {
			t.Fatalf("message %d has %d bytes", i, len(b))
		}
		var tables []impl.Table
		other, tables, code = impl.ReadMessage(other, b)
		var wantTables []impl.Table
		if i == len(messages)-1 {
			wantTables = []impl.Table{table}
		}
		if code != impl.CodeOK || !sameTables(tables, wantTables) || !impl.ValidStream(other) {
			t.Fatalf("ReadMessage of message %d: %s, %s, %d", i, short(other), short(tables), code)
		}
	}
	if !sameStream(other, next) {
		t.Fatalf("the other side has %s; want %s", short(other), short(next))
	}
	return next
}

// kindsOf are the kinds of encoded messages.
func kindsOf(messages [][]byte) []int {
	var kinds []int
	for _, b := range messages {
		kinds = append(kinds, int(b[2]))
	}
	return kinds
}

func tableOf(rows int, cells ...impl.Cell) impl.Table { return impl.Table{Rows: rows, Cells: cells} }

// P6
func TestTablesOfEachKindOfColumn(t *testing.T) {
	for _, f := range everyField() {
		var good []impl.Cell
		for _, c := range oddCells() {
			if validByHand(f, c) {
				good = append(good, c)
			}
		}
		for _, next := range []int{0, 7, impl.MaxIndex - 1} {
			s := openOf([]impl.Field{f}, next, nil)
			for rows := range 3 {
				listsOver(good, rows, func(cells []impl.Cell) { checkWritten(t, s, tableOf(rows, cells...)) })
			}
			checkWritten(t, s, tableOf(len(good), good...))
			for _, c := range good {
				checkWritten(t, s, tableOf(impl.MaxRows, slices.Repeat([]impl.Cell{c}, impl.MaxRows)...))
			}
		}
	}
}

// P6
func TestTablesOfManyColumns(t *testing.T) {
	for n := 1; n <= impl.MaxFields; n++ {
		for kind := range 4 {
			s := openOf(manyFields(n, kind), n, nil)
			for _, rows := range []int{0, 1, 7, 8, 9, impl.MaxRows} {
				s = checkWritten(t, s, tableOf(rows, slices.Repeat([]impl.Cell{null}, n*rows)...))
				s = checkWritten(t, s, tableOf(rows, make([]impl.Cell, n*rows)...))
			}
		}
	}
	s := openOf(mixedFields(), 41, nil)
	s = checkWritten(t, s, tableOf(2, text("x"), text("y"), number(1), null, null, text("long text"), number(-1), number(1<<31-1), text("y"), null))
	s = checkWritten(t, s, tableOf(0))
	s = checkWritten(t, s, tableOf(1, text("y"), number(0), text(""), null, text("")))
	if want := openOf(mixedFields(), 44, map[int][][]byte{0: texts("x", "y"), 4: texts("y", "")}); !sameStream(s, want) {
		t.Errorf("%v; want %v", s, want)
	}
}

// P6: the greatest tables of each kind come to no message of more than MaxBuffer bytes.
func TestTablesThatAreGreat(t *testing.T) {
	const all = impl.MaxFields * impl.MaxRows
	wide := manyFields(impl.MaxFields, impl.KindInt)
	for i := range wide {
		wide[i].Width = 8
	}
	numbers := slices.Repeat([]impl.Cell{number(math.MinInt), number(math.MaxInt), null, number(-1)}, all/4)
	checkWritten(t, openOf(wide, 0, nil), tableOf(impl.MaxRows, numbers...))
	words := slices.Repeat([]impl.Cell{text("abc"), text("de"), null, text("fghij")}, all/4)
	words[1] = text(strings.Repeat("x", impl.MaxTexts-10*all/4+2))
	checkWritten(t, openOf(manyFields(impl.MaxFields, impl.KindText), 0, nil), tableOf(impl.MaxRows, words...))
	words[1] = text(strings.Repeat("x", impl.MaxTexts-10*all/4+3))
	checkNotWritten(t, openOf(manyFields(impl.MaxFields, impl.KindText), 0, nil), tableOf(impl.MaxRows, words...), impl.CodeBad)
	mixed := append(wide[:6:6], manyFields(impl.MaxFields, impl.KindText)[6:]...)
	checkWritten(t, openOf(mixed, 0, nil), tableOf(impl.MaxRows, slices.Concat(numbers[:all/2], words[all/2:])...))
	var places []impl.Cell
	for range impl.MaxFields {
		places = append(places, cellsOf(numbered(impl.MaxDict))...)
		places = append(places, slices.Repeat([]impl.Cell{null}, impl.MaxRows-impl.MaxDict)...)
	}
	checkWritten(t, openOf(manyFields(impl.MaxFields, impl.KindDict), 0, nil), tableOf(impl.MaxRows, places...))
	long := text(strings.Repeat("x", impl.MaxTexts))
	checkWritten(t, openOf(fourFields(), 0, nil), tableOf(1, null, null, long, null))
	checkWritten(t, openOf(fourFields(), 0, nil), tableOf(1, null, null, null, long))
	checkWritten(t, openOf(fourFields(), 0, map[int][][]byte{3: {long.Text}}), tableOf(1, null, null, null, long))
}

// P6
func TestTablesWithEachPlan(t *testing.T) {
	fields := []impl.Field{field("a", impl.KindDict), field("n", impl.KindInt), field("b", impl.KindDict)}
	full, others := numbered(impl.MaxDict), othersNumbered(impl.MaxDict)
	cell := func(b []byte) impl.Cell { return impl.Cell{Text: b} }
	cases := []struct {
		a, b  [][]byte
		first impl.Cell
		last  impl.Cell
		kinds []int
		field int // of the first message
	}{
		{nil, nil, null, null, []int{4}, 0},
		{full, others, cell(full[39]), cell(others[0]), []int{4}, 0},
		{nil, nil, text("x"), null, []int{3, 4}, 0},
		{nil, nil, null, text(""), []int{3, 4}, 2},
		{nil, nil, text("x"), text("x"), []int{3, 3, 4}, 0},
		{full, nil, text("x"), text("x"), []int{2, 3, 4}, 0},
		{full[:39], full, text("x"), text("x"), []int{3, 2, 4}, 0},
		{full, others, text("x"), text("y"), []int{2, 2, 4}, 0},
		{full, others, cell(full[0]), text(""), []int{2, 4}, 2},
		{full, others, cell(others[0]), cell(full[0]), []int{2, 2, 4}, 0},
	}
	for i, c := range cases {
		s := openOf(fields, i, map[int][][]byte{0: c.a, 2: c.b})
		table := tableOf(1, c.first, number(i), c.last)
		next := checkWritten(t, s, table)
		_, messages, _ := impl.WriteTable(s, table)
		if got := kindsOf(messages); !slices.Equal(got, c.kinds) || int(messages[0][3]) != c.field {
			t.Errorf("case %d: messages %v, the first for field %d", i, got, messages[0][3])
		}
		checkWritten(t, next, tableOf(2, c.first, c.first, null, null, c.last, null))
	}
}

// P6, byte by byte.
func TestTableMessagesByteByByte(t *testing.T) {
	s := openOf([]impl.Field{field("t", impl.KindText), field("d", impl.KindDict)}, 5, map[int][][]byte{1: texts("old")})
	next, messages, code := impl.WriteTable(s, tableOf(2, text("ab"), null, text("old"), text("new")))
	delta := messageByHand(impl.Message{Kind: 3, Field: 1, Count: 1, Buffers: [][]byte{{0, 0, 0, 0, 3, 0, 0, 0}, []byte("new")}})
	batch := messageByHand(impl.Message{Kind: 4, Count: 2, Buffers: [][]byte{{1}, {0, 0, 0, 0, 2, 0, 0, 0, 2, 0, 0, 0}, []byte("ab"), nil, {0, 1}}})
	if code != impl.CodeOK || !sameLists(messages, [][]byte{delta, batch}) || next.Next != 6 || !sameLists(next.Dicts[1], texts("old", "new")) {
		t.Errorf("%v, %x, %d", next, messages, code)
	}
	none := impl.Table{}
	_, messages, _ = impl.WriteTable(s, none)
	if want := messageByHand(impl.Message{Kind: 4, Buffers: [][]byte{nil, {0, 0, 0, 0}, nil, nil, nil}}); !sameLists(messages, [][]byte{want}) {
		t.Errorf("no rows: %x", messages)
	}
}

func TestTablesThatAreNotWritten(t *testing.T) {
	row := []impl.Cell{null, number(1), text("t"), text("d")}
	good := tableOf(1, row...)
	last := openOf(fourFields(), impl.MaxIndex, map[int][][]byte{3: texts("d")})
	checkNotWritten(t, last, good, impl.CodeEnd)
	checkNotWritten(t, last, impl.Table{}, impl.CodeEnd)
	s := openOf(fourFields(), impl.MaxIndex-1, map[int][][]byte{3: texts("d")})
	checkNotWritten(t, checkWritten(t, s, good), good, impl.CodeEnd)
	wrong := []impl.Table{tableOf(0, row...), tableOf(2, row...), tableOf(-1), tableOf(1), tableOf(1, row[:3]...), tableOf(1, append(row[:4:4], null)...),
		tableOf(impl.MaxRows+1, slices.Repeat([]impl.Cell{null}, 4*impl.MaxRows+4)...), tableOf(math.MaxInt), tableOf(math.MinInt),
		tableOf(1, null, number(1), text("t"), text(strings.Repeat("d", impl.MaxTexts)))}
	for i := range row {
		for _, c := range []impl.Cell{{Null: true, N: 1}, {N: 1, Text: []byte("x")}, number(1 << 40)} {
			cells := slices.Clone(row)
			cells[i] = c
			wrong = append(wrong, tableOf(1, cells...))
		}
	}
	for _, table := range wrong {
		checkNotWritten(t, s, table, impl.CodeBad)
		checkNotWritten(t, last, table, impl.CodeBad)
	}
	tooMany := tableOf(impl.MaxDict+1, slices.Concat(slices.Repeat([]impl.Cell{null}, 3*impl.MaxDict+3), cellsOf(numbered(impl.MaxDict+1)))...)
	checkNotWritten(t, s, tooMany, impl.CodeBad)
}

// thrownTable is a table that is valid for the fields.
func thrownTable(below func(int) int, fields []impl.Field) impl.Table {
	rows := below(12)
	if below(10) == 0 {
		rows = below(impl.MaxRows + 1)
	}
	table := impl.Table{Rows: rows}
	for _, f := range fields {
		words := numbered(impl.MaxDict)
		if below(2) == 0 {
			words = othersNumbered(impl.MaxDict)
		}
		for range rows {
			c := impl.Cell{Null: below(5) == 0}
			switch {
			case c.Null:
			case f.Kind == impl.KindBool:
				c.N = below(2)
			case f.Kind == impl.KindInt:
				least, _ := limits(f.Width)
				c.N = least + below(1<<20)%(-least) + below(2)*(-least)
			default:
				c.Text = words[below(len(words))][:4*below(2)]
			}
			table.Cells = append(table.Cells, c)
		}
	}
	return table
}

// P6: two sides that start alike stay alike, whatever tables come.
func TestTablesOneAfterAnother(t *testing.T) {
	below := diceOf(6)
	kinds := map[int]int{}
	for range 60 {
		var fields []impl.Field
		for i := range 1 + below(impl.MaxFields) {
			f := field("f"+strconv.Itoa(i), below(4))
			if f.Kind == impl.KindInt {
				f.Width = widths[below(4)]
			}
			fields = append(fields, f)
		}
		s, _, _ := impl.StartStream(fields, below(impl.MaxIndex-20))
		for range 12 {
			table := thrownTable(below, fields)
			_, messages := writeByHand(s, table)
			for _, kind := range kindsOf(messages) {
				kinds[kind]++
			}
			s = checkWritten(t, s, table)
		}
	}
	if kinds[impl.MsgReplace] < 20 || kinds[impl.MsgDelta] < 100 {
		t.Errorf("how often each kind: %v", kinds)
	}
}

// checkCorrupt: the stream is as it was, and no table is read.
func checkCorrupt(t *testing.T, what string, s impl.Stream, b []byte) {
	t.Helper()
	was := copyStream(s)
	got, tables, code := impl.ReadMessage(s, b)
	if code != impl.CodeCorrupt || len(tables) != 0 || !sameStream(got, was) || !sameStream(s, was) {
		t.Errorf("%s: ReadMessage(%s, %.200x) = %s, %s, %d; want it as it was, CodeCorrupt", what, short(s), b, short(got), short(tables), code)
	}
}

// checkTaken: the stream becomes the one that is wanted.
func checkTaken(t *testing.T, what string, s impl.Stream, b []byte, want impl.Stream, wantTables ...impl.Table) {
	t.Helper()
	got, tables, code := impl.ReadMessage(s, b)
	if code != impl.CodeOK || !sameTables(tables, wantTables) || !sameStream(got, want) {
		t.Errorf("%s: ReadMessage(%s, %.200x) = %s, %s, %d; want %s, %s", what, short(s), b, short(got), short(tables), code, short(want), short(wantTables))
	}
}

// streamStates has streams of all sorts that are valid, with a good message for each.
func streamStates() []struct {
	s impl.Stream
	b []byte
} {
	s := openOf(mixedFields(), 3, map[int][][]byte{0: texts("x", "", "zz"), 4: texts("e")})
	table := tableOf(3, text("x"), null, text("zz"), number(1), null, number(0), text("one"), text(""), null,
		number(5), null, number(-6), text("e"), text("e"), null)
	one := openOf([]impl.Field{field("n", impl.KindInt)}, impl.MaxIndex-1, nil)
	return []struct {
		s impl.Stream
		b []byte
	}{
		{impl.Stream{}, headerByHand(mixedFields(), 258)},
		{impl.Stream{}, headerByHand([]impl.Field{named("x")}, impl.MaxIndex)},
		{s, messageByHand(textsMessage(impl.MsgReplace, 0, texts("b", "x")))},
		{s, messageByHand(textsMessage(impl.MsgReplace, 4, nil))},
		{s, messageByHand(textsMessage(impl.MsgDelta, 4, texts("x", "yyyyyyyyy", "")))},
		{s, messageByHand(batchMessage(s, table))},
		{s, messageByHand(batchMessage(s, impl.Table{}))},
		{one, messageByHand(batchMessage(one, tableOf(2, number(7), null)))},
	}
}

// P7
func TestSpoiltMessagesLeaveTheStream(t *testing.T) {
	for _, state := range streamStates() {
		if _, _, code := impl.ReadMessage(state.s, state.b); code != impl.CodeOK {
			t.Fatalf("the message itself: %d", code)
		}
		for bit := range 8 * len(state.b) {
			b := bytes.Clone(state.b)
			b[bit/8] ^= 1 << (bit % 8)
			checkCorrupt(t, "a bit", state.s, b)
		}
		body := unsealed(state.b)
		for n := range state.b {
			checkCorrupt(t, "cut", state.s, state.b[:n])
		}
		for n := range body {
			checkCorrupt(t, "cut and sealed", state.s, sealed(body[:n]))
		}
		for more := 1; more < 10; more++ {
			checkCorrupt(t, "more", state.s, append(bytes.Clone(state.b), make([]byte, more)...))
			checkCorrupt(t, "more, sealed", state.s, sealed(append(bytes.Clone(body), make([]byte, more)...)))
		}
		for _, b := range [][]byte{nil, {}, {67, 77}, make([]byte, impl.MaxBuffer+1)} {
			checkCorrupt(t, "other bytes", state.s, b)
		}
	}
}

// streamBehind is the stream that a message which is not corrupt must lead to, told by what was answered; ok says
// whether the answer makes just these bytes.
func streamBehind(s, got impl.Stream, tables []impl.Table, b []byte) (want impl.Stream, ok bool) {
	want = copyStream(s)
	switch kind := int(b[2]); kind {
	case impl.MsgHeader:
		want = openOf(got.Fields, got.Next, nil)
		return want, !s.Open && len(tables) == 0 && bytes.Equal(headerByHand(got.Fields, got.Next), b)
	case impl.MsgBatch:
		want.Next++
		if !s.Open || len(tables) != 1 || !impl.ValidTable(s.Fields, tables[0]) {
			return want, false
		}
		return want, bytes.Equal(messageByHand(batchMessage(s, tables[0])), b)
	default:
		at := int(b[3])
		if !s.Open || len(tables) != 0 || at >= len(s.Fields) || s.Fields[at].Kind != impl.KindDict || len(got.Dicts) != len(s.Dicts) {
			return want, false
		}
		fresh := got.Dicts[at]
		if had := len(s.Dicts[at]); kind == impl.MsgDelta {
			if len(fresh) <= had || !sameLists(fresh[:had], s.Dicts[at]) {
				return want, false
			}
			fresh = fresh[had:]
		}
		want.Dicts[at] = got.Dicts[at]
		return want, bytes.Equal(messageByHand(textsMessage(kind, at, fresh)), b)
	}
}

// checkReadIsWritten holds an answer of ReadMessage against the document: as it was, or what just these bytes say.
func checkReadIsWritten(t *testing.T, s impl.Stream, b []byte) bool {
	t.Helper()
	got, tables, code := impl.ReadMessage(s, b)
	if code == impl.CodeCorrupt && len(tables) == 0 && sameStream(got, s) {
		return false
	}
	if code != impl.CodeOK || !impl.ValidStream(got) {
		t.Fatalf("ReadMessage(%s, %.200x) = %s, %s, %d", short(s), b, short(got), short(tables), code)
	}
	if want, ok := streamBehind(s, got, tables, b); !ok || !sameStream(got, want) {
		t.Fatalf("ReadMessage(%s, %.200x) = %s, %s; want %s", short(s), b, short(got), short(tables), short(want))
	}
	return true
}

// P7: with a checksum that fits, every byte takes every value.
func TestChangedMessagesAreReadAsWritten(t *testing.T) {
	states := streamStates()
	for i, state := range states {
		body := unsealed(state.b)
		taken := 0
		for at := range body {
			was := body[at]
			for x := range 256 {
				body[at] = byte(x)
				b := sealed(body)
				if checkReadIsWritten(t, state.s, b) {
					taken++
				}
			}
			body[at] = was
		}
		if taken < len(body) {
			t.Errorf("state %d: %d are taken", i, taken)
		}
		for _, other := range states {
			checkReadIsWritten(t, other.s, state.b)
		}
	}
}

// P7
func TestMessagesOutOfOrder(t *testing.T) {
	open := openOf(mixedFields(), 0, nil)
	checkCorrupt(t, "a header to an open stream", open, headerByHand(mixedFields(), 0))
	checkCorrupt(t, "a header to an open stream", open, headerByHand(fourFields(), 9))
	for _, m := range []impl.Message{
		batchMessage(open, impl.Table{}), {Kind: impl.MsgBatch}, {Kind: impl.MsgDelta}, {Kind: impl.MsgReplace},
		textsMessage(impl.MsgReplace, 0, nil), textsMessage(impl.MsgReplace, 0, texts("a")), textsMessage(impl.MsgDelta, 0, texts("a")),
	} {
		checkCorrupt(t, "to a stream that is not open", impl.Stream{}, messageByHand(m))
	}
}

// P7
func TestHeadersThatAreNotStartStreams(t *testing.T) {
	next := binary.LittleEndian.AppendUint64(nil, 5)
	field := func(kind, width byte, name string) []byte { return append([]byte{kind, width}, name...) }
	a, b := field(0, 0, "a"), field(1, 8, "b")
	header := func(count int, buffers ...[]byte) []byte {
		return messageByHand(impl.Message{Kind: impl.MsgHeader, Count: count, Buffers: buffers})
	}
	want := openOf([]impl.Field{{Name: []byte("a")}, {Name: []byte("b"), Kind: impl.KindInt, Width: 8}}, 5, nil)
	checkTaken(t, "good", impl.Stream{}, header(2, next, a, b), want)
	most := binary.LittleEndian.AppendUint64(nil, impl.MaxIndex)
	want.Next = impl.MaxIndex
	checkTaken(t, "MaxIndex", impl.Stream{}, header(2, most, a, b), want)
	for what, bad := range map[string][]byte{
		"no buffer":             header(0),
		"no buffer, a Count":    header(1),
		"no field":              header(0, next),
		"no field, a Count":     header(1, next),
		"no number":             header(2, a, b),
		"an empty number":       header(2, nil, a, b),
		"a short number":        header(2, next[:7], a, b),
		"a long number":         header(2, append(next[:8:8], 0), a, b),
		"two numbers":           header(2, append(next[:8:8], next...), a, b),
		"next beyond MaxIndex":  header(2, binary.LittleEndian.AppendUint64(nil, impl.MaxIndex+1), a, b),
		"next with bit 63":      header(2, binary.LittleEndian.AppendUint64(nil, 1<<63), a, b),
		"next with bit 63 on 5": header(2, binary.LittleEndian.AppendUint64(nil, 1<<63+5), a, b),
		"next of all bits":      header(2, binary.LittleEndian.AppendUint64(nil, math.MaxUint64), a, b),
		"next with bit 32":      header(2, binary.LittleEndian.AppendUint64(nil, 1<<32+5), a, b),
		"Count too small":       header(1, next, a, b),
		"Count too great":       header(3, next, a, b),
		"Count 0":               header(0, next, a, b),
		"Count 258":             header(258, next, a, b),
		"a name twice":          header(2, next, a, field(1, 8, "a")),
		"no name":               header(2, next, a, field(1, 8, "")),
		"no name and no width":  header(2, next, a, []byte{0}),
		"an empty field":        header(2, next, a, nil),
		"an empty field first":  header(2, next, nil, a),
		"a long name":           header(1, next, field(0, 0, strings.Repeat("n", impl.MaxName+1))),
		"a wrong name":          header(1, next, field(0, 0, "a b")),
		"a 0 in the name":       header(1, next, field(0, 0, "a\x00")),
		"a wrong kind":          header(1, next, field(4, 0, "a")),
		"kind 255":              header(1, next, field(255, 0, "a")),
		"a width for KindBool":  header(1, next, field(0, 1, "a")),
		"no width for KindInt":  header(1, next, field(1, 0, "a")),
		"width 3":               header(1, next, field(1, 3, "a")),
		"a width for KindText":  header(1, next, field(2, 4, "a")),
		"a width for KindDict":  header(1, next, field(3, 1, "a")),
		"fields one too many":   headerByHand(manyFields(impl.MaxFields+1, impl.KindBool), 0),
		"fields far too many":   headerByHand(manyFields(impl.MaxBuffers-1, impl.KindBool), 0),
	} {
		checkCorrupt(t, what, impl.Stream{}, bad)
	}
	full := manyFields(impl.MaxFields, impl.KindBool)
	checkTaken(t, "MaxFields", impl.Stream{}, headerByHand(full, 0), openOf(full, 0, nil))
}

// P7
func TestDictionaryMessages(t *testing.T) {
	s := openOf(mixedFields(), 3, map[int][][]byte{0: texts("x", "y"), 4: texts("e")})
	with := func(at int, values [][]byte) impl.Stream {
		want := copyStream(s)
		want.Dicts[at] = values
		return want
	}
	send := func(kind, at int, fresh ...string) []byte {
		return messageByHand(textsMessage(kind, at, texts(fresh...)))
	}
	checkTaken(t, "a text", s, send(impl.MsgDelta, 0, "z"), with(0, texts("x", "y", "z")))
	checkTaken(t, "the empty text", s, send(impl.MsgDelta, 0, ""), with(0, texts("x", "y", "")))
	checkTaken(t, "two texts", s, send(impl.MsgDelta, 4, "z", ""), with(4, texts("e", "z", "")))
	checkTaken(t, "replaced", s, send(impl.MsgReplace, 4, "z", "e"), with(4, texts("z", "e")))
	checkTaken(t, "replaced by the same", s, send(impl.MsgReplace, 0, "x", "y"), with(0, texts("x", "y")))
	checkTaken(t, "replaced by the empty text", s, send(impl.MsgReplace, 0, ""), with(0, texts("")))
	checkTaken(t, "replaced by none", s, send(impl.MsgReplace, 0), with(0, nil))
	s.Next = impl.MaxIndex
	checkTaken(t, "Next is MaxIndex", s, send(impl.MsgDelta, 0, "z"), with(0, texts("x", "y", "z")))
	s.Next = 3
	for _, kind := range []int{impl.MsgReplace, impl.MsgDelta} {
		for at := range impl.MaxFields {
			if at != 0 && at != 4 {
				checkCorrupt(t, "no such field, or of another kind", s, send(kind, at, "z"))
				checkCorrupt(t, "no such field, or of another kind", s, send(kind, at))
			}
		}
		checkCorrupt(t, "a text twice", s, send(kind, 0, "z", "z"))
		checkCorrupt(t, "the empty text twice", s, send(kind, 0, "", "z", ""))
		checkCorrupt(t, "more than MaxDict", s, messageByHand(textsMessage(kind, 0, numbered(impl.MaxDict+1))))
		checkCorrupt(t, "MaxRows", s, messageByHand(textsMessage(kind, 0, numbered(impl.MaxRows))))
		checkCorrupt(t, "more than MaxRows", s, messageByHand(textsMessage(kind, 0, numbered(impl.MaxRows+1))))
		checkCorrupt(t, "more than MaxTexts", s, send(kind, 0, strings.Repeat("z", impl.MaxTexts+1)))
	}
	checkCorrupt(t, "none", s, send(impl.MsgDelta, 0))
	checkCorrupt(t, "one that is there", s, send(impl.MsgDelta, 0, "y"))
	checkCorrupt(t, "one that is there behind a new one", s, send(impl.MsgDelta, 0, "z", "x"))
	full := messageByHand(textsMessage(impl.MsgReplace, 0, numbered(impl.MaxDict)))
	checkTaken(t, "MaxDict", s, full, with(0, numbered(impl.MaxDict)))
	room := messageByHand(textsMessage(impl.MsgDelta, 0, numbered(impl.MaxDict-2)))
	checkTaken(t, "MaxDict together", s, room, with(0, slices.Concat(texts("x", "y"), numbered(impl.MaxDict-2))))
	checkCorrupt(t, "more together", s, messageByHand(textsMessage(impl.MsgDelta, 0, numbered(impl.MaxDict-1))))
	long := strings.Repeat("z", impl.MaxTexts-2)
	checkTaken(t, "MaxTexts together", s, send(impl.MsgDelta, 0, long), with(0, texts("x", "y", long)))
	checkCorrupt(t, "more together", s, send(impl.MsgDelta, 0, long+"z"))
}

// P7
func TestDictionaryMessagesOfOtherBuffers(t *testing.T) {
	s := openOf(mixedFields(), 3, map[int][][]byte{0: texts("x", "y")})
	good := textsMessage(impl.MsgReplace, 0, texts("a", "bc"))
	ends, joined := good.Buffers[0], good.Buffers[1]
	for _, kind := range []int{impl.MsgReplace, impl.MsgDelta} {
		for _, count := range []int{0, 1, 3, impl.MaxRows, impl.MaxRows + 1, impl.MaxCount} {
			checkCorrupt(t, "Count", s, messageByHand(impl.Message{Kind: kind, Count: count, Buffers: good.Buffers}))
		}
		for _, buffers := range [][][]byte{nil, {ends}, {joined, ends}, {ends, joined, nil}, {nil, ends, joined}, {ends, joined, joined},
			{ends, joined[:2]}, {ends, append(joined[:3:3], 0)}, {ends, nil}, {nil, joined}, {nil, nil}, {ends[:8], joined}, {ends[:11], joined},
			{append(ends[:12:12], 3, 0, 0, 0), joined}, {packModulo([]int{1, 2, 3}, 4), joined}, {packModulo([]int{0, 2, 1}, 4), joined},
			{packModulo([]int{0, -1, 3}, 4), joined}, {packModulo([]int{0, 4, 3}, 4), joined}, {packModulo([]int{0, 1, 3}, 2), joined}} {
			checkCorrupt(t, "buffers", s, messageByHand(impl.Message{Kind: kind, Count: 2, Buffers: buffers}))
		}
		checkCorrupt(t, "a validity", s, messageByHand(impl.Message{Kind: kind, Count: 2, Buffers: [][]byte{{2}, ends, joined}}))
		checkCorrupt(t, "no offsets", s, messageByHand(impl.Message{Kind: kind, Buffers: [][]byte{nil, nil}}))
	}
}

// P7
func TestBatchMessages(t *testing.T) {
	s := openOf(mixedFields(), 3, map[int][][]byte{0: texts("x", "y"), 4: texts("e")})
	table := tableOf(2, text("y"), null, number(1), number(0), text("t"), text(""), null, number(-1), null, text("e"))
	good := batchMessage(s, table)
	next := copyStream(s)
	next.Next = 4
	checkTaken(t, "good", s, messageByHand(good), next, table)
	checkTaken(t, "no rows", s, messageByHand(batchMessage(s, impl.Table{})), next, impl.Table{})
	last := openOf(s.Fields, impl.MaxIndex, map[int][][]byte{0: texts("x", "y"), 4: texts("e")})
	checkCorrupt(t, "Next is MaxIndex", last, messageByHand(good))
	checkCorrupt(t, "Next is MaxIndex", last, messageByHand(batchMessage(s, impl.Table{})))
	last.Next = impl.MaxIndex - 1
	end := copyStream(last)
	end.Next = impl.MaxIndex
	checkTaken(t, "the last one", last, messageByHand(good), end, table)
	for _, count := range []int{0, 1, 3, 8, impl.MaxRows, impl.MaxRows + 1, impl.MaxCount} {
		checkCorrupt(t, "Count", s, messageByHand(impl.Message{Kind: impl.MsgBatch, Count: count, Buffers: good.Buffers}))
	}
	batch := func(buffers [][]byte) []byte {
		return messageByHand(impl.Message{Kind: impl.MsgBatch, Count: 2, Buffers: buffers})
	}
	for n := range good.Buffers {
		checkCorrupt(t, "too few buffers", s, batch(good.Buffers[:n]))
		checkCorrupt(t, "one left out", s, batch(slices.Delete(slices.Clone(good.Buffers), n, n+1)))
		checkCorrupt(t, "one more", s, batch(slices.Insert(slices.Clone(good.Buffers), n, []byte("more"))))
		changed := slices.Clone(good.Buffers)
		changed[n] = append(bytes.Clone(changed[n]), 0)
		checkCorrupt(t, "a byte more", s, batch(changed))
	}
	checkCorrupt(t, "an empty one more", s, batch(append(slices.Clone(good.Buffers), nil)))
	checkCorrupt(t, "twice as many", s, batch(slices.Concat(good.Buffers, good.Buffers)))
	for _, place := range []byte{2, 3, 40, 127, 128, 255} {
		changed := slices.Clone(good.Buffers)
		changed[1] = []byte{place, 0}
		checkCorrupt(t, "a place beyond the dictionary", s, batch(changed))
		changed[1] = []byte{1, place}
		checkCorrupt(t, "a place behind a Null", s, batch(changed))
	}
	without := openOf(mixedFields(), 3, map[int][][]byte{0: texts("x"), 4: texts("e")})
	checkCorrupt(t, "a shorter dictionary", without, messageByHand(good))
}

// P7: columns that are well alone, of a table that is not valid.
func TestBatchMessagesOfTablesThatAreNotValid(t *testing.T) {
	half := strings.Repeat("h", impl.MaxTexts/2)
	two := openOf([]impl.Field{field("s", impl.KindText), field("t", impl.KindText)}, 0, nil)
	next := copyStream(two)
	next.Next = 1
	most := tableOf(1, text(half), text(half))
	checkTaken(t, "MaxTexts", two, messageByHand(batchMessage(two, most)), next, most)
	checkCorrupt(t, "a byte more", two, messageByHand(batchMessage(two, tableOf(1, text(half), text(half+"h")))))
	dict := openOf([]impl.Field{field("d", impl.KindDict)}, 0, map[int][][]byte{0: texts(half, "x")})
	next = copyStream(dict)
	next.Next = 1
	most = tableOf(2, text(half), text(half))
	checkTaken(t, "MaxTexts", dict, messageByHand(batchMessage(dict, most)), next, most)
	checkCorrupt(t, "a byte more", dict, messageByHand(batchMessage(dict, tableOf(3, text(half), text(half), text("x")))))
	rows := openOf([]impl.Field{field("b", impl.KindBool)}, 0, nil)
	checkCorrupt(t, "a row more", rows, messageByHand(batchMessage(rows, tableOf(impl.MaxRows+1, make([]impl.Cell, impl.MaxRows+1)...))))
}

// P7
func TestThrownBytesLeaveTheStream(t *testing.T) {
	below := diceOf(7)
	for _, state := range streamStates() {
		for range 2000 {
			b := make([]byte, below(60))
			for i := range b {
				b[i] = byte(below(256))
			}
			checkCorrupt(t, "thrown bytes", state.s, b)
			part := bytes.Clone(state.b)
			for range 1 + below(4) {
				part[below(len(part))] = byte(below(256))
			}
			checkReadIsWritten(t, state.s, part)
			checkReadIsWritten(t, state.s, sealed(unsealed(part)))
		}
	}
}

// listsOfStream are all lists of bytes in a stream.
func listsOfStream(s impl.Stream) [][]byte {
	var lists [][]byte
	for _, f := range s.Fields {
		lists = append(lists, f.Name)
	}
	return append(lists, slices.Concat(s.Dicts...)...)
}

// listsOfTables are all lists of bytes in tables.
func listsOfTables(tables []impl.Table) [][]byte {
	var lists [][]byte
	for _, table := range tables {
		for _, c := range table.Cells {
			lists = append(lists, c.Text)
		}
	}
	return lists
}

// checkStreamApart writes into every list of an answered stream: the given one must stay as it is.
func checkStreamApart(t *testing.T, answer, given impl.Stream) {
	t.Helper()
	was := copyStream(given)
	checkApart(t, listsOfStream(answer), listsOfStream(given))
	for _, values := range answer.Dicts {
		for i := range values[:cap(values)] {
			values[:cap(values)][i] = []byte("written")
		}
	}
	for i := range answer.Dicts[:cap(answer.Dicts)] {
		answer.Dicts[:cap(answer.Dicts)][i] = texts("written")
	}
	for i := range answer.Fields[:cap(answer.Fields)] {
		answer.Fields[:cap(answer.Fields)][i] = named("written")
	}
	if !sameStream(given, was) {
		t.Error("the answered stream shares its places with the given one")
	}
}

func TestMessagesAreNewMemory(t *testing.T) {
	m := impl.Message{Kind: impl.MsgBatch, Buffers: texts("abc", "12345678", "")}
	b := impl.EncodeMessage(m)
	checkApart(t, [][]byte{b}, m.Buffers)
	b = messageByHand(m)
	got, _ := impl.DecodeMessage(b)
	checkApart(t, got.Buffers, [][]byte{b})
	one := impl.Message{Kind: impl.MsgBatch, Buffers: slices.Repeat([][]byte{[]byte("same")}, 3)}
	got, _ = impl.DecodeMessage(impl.EncodeMessage(one))
	checkApart(t, got.Buffers, one.Buffers)
}

func TestStreamsAreNewMemory(t *testing.T) {
	fields := mixedFields()
	s, header, _ := impl.StartStream(fields, 1)
	checkApart(t, append(listsOfStream(s), header), listsOfStream(impl.Stream{Fields: fields}))
	checkStreamApart(t, s, impl.Stream{Fields: fields})
	if !sameFields(fields, mixedFields()) {
		t.Error("StartStream shares memory with the fields")
	}
	dicts := map[int][][]byte{0: texts("x", "y"), 4: numbered(impl.MaxDict)}
	given := openOf(mixedFields(), 3, dicts)
	table := tableOf(2, text("x"), text("new"), number(1), null, text("t"), text("t"), number(4), number(5), text("other"), text("other"))
	for _, table := range []impl.Table{table, {}} {
		got, messages, _ := impl.WriteTable(given, table)
		checkApart(t, slices.Concat(messages, listsOfStream(got)), slices.Concat(listsOfStream(given), listsOfTables([]impl.Table{table})))
		got, _, _ = impl.WriteTable(given, table)
		checkStreamApart(t, got, given)
	}
	if !sameStream(given, openOf(mixedFields(), 3, dicts)) {
		t.Error("WriteTable shares memory with the stream")
	}
}

func TestReadStreamsAreNewMemory(t *testing.T) {
	for _, state := range streamStates() {
		for _, b := range [][]byte{state.b, nil, sealed(unsealed(state.b)[:8]), append(bytes.Clone(state.b), 0)} {
			given := copyStream(state.s)
			bytesWere := bytes.Clone(b)
			got, tables, _ := impl.ReadMessage(given, b)
			checkApart(t, slices.Concat(listsOfTables(tables), listsOfStream(got)), append(listsOfStream(given), b))
			got, _, _ = impl.ReadMessage(given, b)
			checkStreamApart(t, got, given)
			if !sameStream(given, state.s) || !bytes.Equal(b, bytesWere) {
				t.Error("ReadMessage shares memory with an argument")
			}
		}
	}
}

func TestStreamsLeaveArgumentsAsTheyWere(t *testing.T) {
	values := append(texts("x", "y"), texts("behind", "more")...)
	s := openOf(mixedFields(), 3, nil)
	s.Dicts[0] = values[:2]
	valuesWere := copyLists(values)
	lists := texts("one", "two", "behind")
	for i := range lists {
		lists[i] = withRoom(lists[i], 9)
	}
	listsWere := copyLists(lists)
	impl.EncodeMessage(impl.Message{Kind: impl.MsgBatch, Buffers: lists[:2]})
	cells := append([]impl.Cell{text("new"), null, text("t"), null, null}, text("behind"))
	cellsWere := copyCells(cells)
	was := copyStream(s)
	impl.WriteTable(s, impl.Table{Rows: 1, Cells: cells[:5]})
	for _, m := range []impl.Message{textsMessage(impl.MsgDelta, 0, texts("z")), textsMessage(impl.MsgReplace, 0, texts("z")), batchMessage(s, impl.Table{}), {Kind: 4}} {
		b := withRoom(messageByHand(m), 9)
		bytesWere := bytes.Clone(b[:cap(b)])
		impl.DecodeMessage(b)
		impl.ReadMessage(s, b)
		impl.ValidStream(s)
		if !bytes.Equal(b[:cap(b)], bytesWere) {
			t.Error("the bytes, or those behind them, were written")
		}
	}
	if !sameStream(s, was) || !sameLists(values, valuesWere) || !sameLists(lists, listsWere) || !sameCells(cells, cellsWere) {
		t.Error("an argument, or what stands behind it, was written")
	}
	for _, b := range lists {
		if !bytes.Equal(b[len(b):len(b)+9], bytes.Repeat([]byte{0xaa}, 9)) {
			t.Error("bytes behind a buffer were written")
		}
	}
}

func TestMessageConstants(t *testing.T) {
	got := []int{impl.MsgHeader, impl.MsgReplace, impl.MsgDelta, impl.MsgBatch, impl.MaxBuffers, impl.MaxCount, impl.MaxIndex}
	if want := []int{1, 2, 3, 4, 40, 1000, 1000000000}; !slices.Equal(got, want) {
		t.Errorf("%v, want %v", got, want)
	}
}
