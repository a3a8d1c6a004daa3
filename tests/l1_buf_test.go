package tests

import (
	"bytes"
	"hash/crc32"
	"math"
	"slices"
	"testing"

	"loop.example/s01316/impl"
)

var widths = []int{1, 2, 4, 8}

var otherWidths = []int{math.MinInt, -8, -1, 0, 3, 5, 6, 7, 9, 16, 64, math.MaxInt}

// bitsOf has the n lowest bits of x, the lowest first.
func bitsOf(x, n int) []bool {
	bits := make([]bool, n)
	for i := range bits {
		bits[i] = x>>i&1 == 1
	}
	return bits
}

// limits are the least and greatest value of a width.
func limits(width int) (int, int) {
	most := math.MaxInt64 >> (64 - 8*width)
	return -most - 1, most
}

// withRoom is b with bytes of another value behind its end, within its capacity.
func withRoom(b []byte, room int) []byte {
	long := append(slices.Clone(b), bytes.Repeat([]byte{0xaa}, room)...)
	return long[:len(b)]
}

func checkBitsRefused(t *testing.T, b []byte, n, want int) {
	t.Helper()
	if bits, code := impl.UnpackBits(b, n); code != want || len(bits) != 0 {
		t.Errorf("UnpackBits(%x, %d) = %v, %d; want none, %d", b, n, bits, code, want)
	}
}

// P1
func TestBitsComeBack(t *testing.T) {
	for n := range 18 {
		for x := range 1 << n {
			bits := bitsOf(x, n)
			b := impl.PackBits(bits)
			if back, code := impl.UnpackBits(b, n); code != impl.CodeOK || !slices.Equal(back, bits) {
				t.Fatalf("%v: packed %x, back %v, %d", bits, b, back, code)
			}
		}
	}
}

// P1
func TestBitsStandLowestFirst(t *testing.T) {
	for n := range 18 {
		for x := range 1 << n {
			want := []byte{byte(x), byte(x >> 8), byte(x >> 16)}[:(n+7)/8]
			if got := impl.PackBits(bitsOf(x, n)); !bytes.Equal(got, want) {
				t.Fatalf("%d bits of %#x: %x, want %x", n, x, got, want)
			}
		}
	}
}

// P1
func TestBitsTakePackedBytesOnly(t *testing.T) {
	var lists [][]byte
	for x := range 1 << 16 {
		if x < 1<<8 {
			lists = append(lists, []byte{byte(x)})
		}
		lists = append(lists, []byte{byte(x), byte(x >> 8)})
	}
	lists = append(lists, nil, []byte{}, []byte{0, 0, 0}, []byte{1, 2, 3})
	for _, b := range lists {
		for n := range 27 {
			bits, code := impl.UnpackBits(b, n)
			fits := len(b) == (n+7)/8 && (n%8 == 0 || b[len(b)-1] < 1<<(n%8))
			if !fits {
				if code != impl.CodeCorrupt || len(bits) != 0 {
					t.Fatalf("%x, %d: %v, %d", b, n, bits, code)
				}
				continue
			}
			if code != impl.CodeOK || len(bits) != n || !bytes.Equal(impl.PackBits(bits), b) {
				t.Fatalf("%x, %d: %v, %d", b, n, bits, code)
			}
		}
	}
}

// P1
func TestBitsAtTheEdges(t *testing.T) {
	if got := impl.PackBits(nil); len(got) != 0 {
		t.Errorf("no bits: %x", got)
	}
	if bits, code := impl.UnpackBits(nil, 0); code != impl.CodeOK || len(bits) != 0 {
		t.Errorf("no bytes: %v, %d", bits, code)
	}
	eight := []bool{true, false, false, true, false, false, false, true}
	if got := impl.PackBits(eight); !bytes.Equal(got, []byte{0x89}) {
		t.Errorf("8 bits: %x", got)
	}
	if got := impl.PackBits(append(slices.Clone(eight), true)); !bytes.Equal(got, []byte{0x89, 1}) {
		t.Errorf("9 bits: %x", got)
	}
	for unused := 1; unused < 8; unused++ {
		checkBitsRefused(t, []byte{0xff, 1 << unused}, 9, impl.CodeCorrupt)
	}
	checkBitsRefused(t, []byte{0x80}, 7, impl.CodeCorrupt)
	checkBitsRefused(t, []byte{0}, 0, impl.CodeCorrupt)
	checkBitsRefused(t, nil, 1, impl.CodeCorrupt)
	checkBitsRefused(t, []byte{0}, 9, impl.CodeCorrupt)
	checkBitsRefused(t, []byte{0, 0}, 8, impl.CodeCorrupt)
}

// P1
func TestBitsOfWrongNumber(t *testing.T) {
	for _, b := range [][]byte{nil, {0}, {1}, {0xff, 1}} {
		for _, n := range []int{-1, -7, -8, -9, math.MinInt, math.MinInt + 7} {
			checkBitsRefused(t, b, n, impl.CodeBad)
		}
		for back := range 20 {
			checkBitsRefused(t, b, math.MaxInt-back, impl.CodeCorrupt)
		}
		for shift := 31; shift < 63; shift++ {
			checkBitsRefused(t, b, 1<<shift, impl.CodeCorrupt)
			checkBitsRefused(t, b, 1<<shift+1, impl.CodeCorrupt)
		}
	}
}

// packModulo is what the document asks of PackInts, by division: no sign and no width of a type takes part.
func packModulo(values []int, width int) []byte {
	var b []byte
	for _, v := range values {
		for range width {
			low := (v%256 + 256) % 256
			b = append(b, byte(low))
			v = (v - low) >> 8
		}
	}
	return b
}

func checkIntsComeBack(t *testing.T, values []int, width int) {
	t.Helper()
	b, code := impl.PackInts(values, width)
	if code != impl.CodeOK || !bytes.Equal(b, packModulo(values, width)) {
		t.Fatalf("PackInts(%v, %d) = %x, %d", values, width, b, code)
	}
	back, code := impl.UnpackInts(b, width)
	if code != impl.CodeOK || !slices.Equal(back, values) {
		t.Fatalf("UnpackInts(%x, %d) = %v, %d; want %v", b, width, back, code, values)
	}
}

func checkIntsRefused(t *testing.T, values []int, width int) {
	t.Helper()
	if b, code := impl.PackInts(values, width); code != impl.CodeBad || len(b) != 0 {
		t.Errorf("PackInts(%v, %d) = %x, %d; want none, CodeBad", values, width, b, code)
	}
}

// P1
func TestIntsComeBack(t *testing.T) {
	for _, width := range widths {
		least, most := limits(width)
		checkIntsComeBack(t, nil, width)
		checkIntsComeBack(t, []int{}, width)
		checkIntsComeBack(t, []int{least}, width)
		checkIntsComeBack(t, []int{most}, width)
		checkIntsComeBack(t, []int{least, -1, 0, 1, most, least + 1, most - 1}, width)
		for bit := range 8*width - 1 {
			checkIntsComeBack(t, []int{1 << bit, -1 << bit, 1<<bit - 1, -1<<bit - 1}, width)
		}
	}
	for v := math.MinInt8; v <= math.MaxInt8; v++ {
		checkIntsComeBack(t, []int{v}, 1)
	}
	for v := math.MinInt16; v <= math.MaxInt16; v++ {
		checkIntsComeBack(t, []int{v}, 2)
	}
}

// P1
func TestIntsStandLowestByteFirst(t *testing.T) {
	cases := []struct {
		values []int
		width  int
		want   string
	}{
		{[]int{1, -2, 127, -128}, 1, "\x01\xfe\x7f\x80"},
		{[]int{0x0102, -2}, 2, "\x02\x01\xfe\xff"},
		{[]int{0x01020304, -0x01020304}, 4, "\x04\x03\x02\x01\xfc\xfc\xfd\xfe"},
		{[]int{0x0102030405060708}, 8, "\x08\x07\x06\x05\x04\x03\x02\x01"},
		{[]int{math.MinInt64, math.MaxInt64}, 8, "\x00\x00\x00\x00\x00\x00\x00\x80\xff\xff\xff\xff\xff\xff\xff\x7f"},
	}
	for _, c := range cases {
		if got, code := impl.PackInts(c.values, c.width); code != impl.CodeOK || string(got) != c.want {
			t.Errorf("%v, %d: %x, %d", c.values, c.width, got, code)
		}
		if back, code := impl.UnpackInts([]byte(c.want), c.width); code != impl.CodeOK || !slices.Equal(back, c.values) {
			t.Errorf("%x, %d: %v, %d", c.want, c.width, back, code)
		}
	}
}

// P1
func TestIntsThatDoNotFit(t *testing.T) {
	for _, width := range []int{1, 2, 4} {
		least, most := limits(width)
		tooFar := []int{least - 1, most + 1, 2*most + 1, 2*most + 2, 2 * least, math.MinInt, math.MaxInt}
		for _, v := range tooFar {
			checkIntsRefused(t, []int{v}, width)
			checkIntsRefused(t, []int{0, v}, width)
			checkIntsRefused(t, []int{v, 0}, width)
			checkIntsRefused(t, []int{least, v, most}, width)
		}
	}
}

// P1
func TestIntsOfOtherWidth(t *testing.T) {
	for _, width := range otherWidths {
		for _, values := range [][]int{nil, {0}, {1, 2, 3}} {
			checkIntsRefused(t, values, width)
		}
		for _, size := range []int{0, 1, 3, 5, 16, 48} {
			if got, code := impl.UnpackInts(make([]byte, size), width); code != impl.CodeBad || len(got) != 0 {
				t.Errorf("UnpackInts(%d bytes, %d) = %v, %d", size, width, got, code)
			}
		}
	}
}

// P1
func TestIntsTakePackedBytesOnly(t *testing.T) {
	for _, width := range widths {
		for size := range 34 {
			b := make([]byte, size)
			for i := range b {
				b[i] = byte(i*73 + size)
			}
			values, code := impl.UnpackInts(b, width)
			if size%width != 0 {
				if code != impl.CodeCorrupt || len(values) != 0 {
					t.Errorf("%d bytes, width %d: %v, %d", size, width, values, code)
				}
				continue
			}
			if code != impl.CodeOK || len(values) != size/width {
				t.Errorf("%d bytes, width %d: %v, %d", size, width, values, code)
			}
			if again, code := impl.PackInts(values, width); code != impl.CodeOK || !bytes.Equal(again, b) {
				t.Errorf("%x, width %d: %v, packed again %x, %d", b, width, values, again, code)
			}
		}
	}
}

// checkJoined walks what JoinAligned has answered, part by part.
func checkJoined(t *testing.T, parts [][]byte) {
	t.Helper()
	joined := impl.JoinAligned(parts)
	at := 0
	for i, part := range parts {
		if at%8 != 0 || len(joined) < at+len(part) || !bytes.Equal(joined[at:at+len(part)], part) {
			t.Fatalf("%x: part %d is not at %d of %x", parts, i, at, joined)
		}
		end := at + len(part)
		at = (end + 7) / 8 * 8
		if len(joined) < at || !bytes.Equal(joined[end:at], make([]byte, at-end)) {
			t.Fatalf("%x: no zeros alone from %d to %d of %x", parts, end, at, joined)
		}
	}
	if len(joined) != at {
		t.Fatalf("%x: %d bytes, want %d", parts, len(joined), at)
	}
}

// P2
func TestJoinAlignedOfAllLengths(t *testing.T) {
	full := bytes.Repeat([]byte{0xff}, 20)
	for first := range 20 {
		checkJoined(t, [][]byte{full[:first]})
		for second := range 20 {
			checkJoined(t, [][]byte{full[:first], full[:second]})
			for third := range 20 {
				checkJoined(t, [][]byte{full[:first], full[:second], full[:third]})
			}
		}
	}
}

// P2
func TestJoinAlignedAtTheEdges(t *testing.T) {
	cases := []struct {
		parts []string
		want  string
	}{
		{nil, ""},
		{[]string{""}, ""},
		{[]string{"", "", ""}, ""},
		{[]string{"12345678"}, "12345678"},
		{[]string{"12345678", "", "abcdefgh"}, "12345678abcdefgh"},
		{[]string{"", "a", "", "b"}, "a\x00\x00\x00\x00\x00\x00\x00b\x00\x00\x00\x00\x00\x00\x00"},
		{[]string{"1234567"}, "1234567\x00"},
		{[]string{"123456789", "x"}, "123456789\x00\x00\x00\x00\x00\x00\x00x\x00\x00\x00\x00\x00\x00\x00"},
		{[]string{"\x00", "\x00"}, "\x00\x00\x00\x00\x00\x00\x00\x00\x00\x00\x00\x00\x00\x00\x00\x00"},
		{[]string{"1234567890123456", "z"}, "1234567890123456z\x00\x00\x00\x00\x00\x00\x00"},
	}
	for _, c := range cases {
		var parts [][]byte
		for _, p := range c.parts {
			parts = append(parts, []byte(p))
		}
		if got := impl.JoinAligned(parts); string(got) != c.want {
			t.Errorf("%q: %q, want %q", c.parts, got, c.want)
		}
	}
}

func TestCrc32(t *testing.T) {
	if got := impl.Crc32([]byte("123456789")); got != 0xcbf43926 {
		t.Errorf("nine digits: %#x", got)
	}
	if got := impl.Crc32(nil); got != 0 {
		t.Errorf("no byte: %#x", got)
	}
	b := make([]byte, 600)
	for i := range b {
		b[i] = byte(i*i + 31*i)
	}
	for n := range b {
		if got, want := impl.Crc32(b[:n]), crc32.ChecksumIEEE(b[:n]); got != want {
			t.Fatalf("%d bytes: %#x, want %#x", n, got, want)
		}
	}
	for x := range 256 {
		one := []byte{byte(x)}
		if got, want := impl.Crc32(one), crc32.ChecksumIEEE(one); got != want {
			t.Errorf("byte %d: %#x, want %#x", x, got, want)
		}
	}
}

func TestCrc32SeesEveryBit(t *testing.T) {
	b := []byte("a list of bytes with a checksum behind it")
	sum := impl.Crc32(b)
	for bit := range 8 * len(b) {
		b[bit/8] ^= 1 << (bit % 8)
		if impl.Crc32(b) == sum {
			t.Errorf("bit %d is not seen", bit)
		}
		b[bit/8] ^= 1 << (bit % 8)
	}
}

func TestBuffersAreNewMemory(t *testing.T) {
	for _, size := range []int{8, 16, 5} {
		part := withRoom(bytes.Repeat([]byte{7}, size), 16)
		parts := [][]byte{part}
		joined := impl.JoinAligned(parts)
		joined[0] = 99
		if part[0] != 7 || &parts[0][0] != &part[0] {
			t.Errorf("%d bytes: the answer shares memory with the argument", size)
		}
		for i, x := range part[size:cap(part)] {
			if i < 16 && x != 0xaa {
				t.Errorf("%d bytes: byte %d behind the argument was written", size, i)
			}
		}
	}
}

func TestBuffersLeaveArgumentsAsTheyWere(t *testing.T) {
	bits := bitsOf(0x155, 9)
	impl.PackBits(bits)
	if !slices.Equal(bits, bitsOf(0x155, 9)) {
		t.Error("PackBits wrote into its argument")
	}
	values := []int{1, -2, 3}
	impl.PackInts(values, 2)
	if !slices.Equal(values, []int{1, -2, 3}) {
		t.Error("PackInts wrote into its argument")
	}
	b := []byte("\x01\xff\x7f\x80\x00\x01\x02\x03")
	was := slices.Clone(b)
	impl.UnpackBits(b, 58)
	impl.Crc32(b)
	for _, width := range widths {
		impl.UnpackInts(b, width)
	}
	if !bytes.Equal(b, was) {
		t.Error("a function that reads bytes wrote into them")
	}
}

func TestBufferConstants(t *testing.T) {
	got := []int{impl.CodeOK, impl.CodeBad, impl.CodeFull, impl.CodeCorrupt, impl.CodeOld, impl.CodeReset, impl.CodeEnd, impl.MaxBuffer}
	if want := []int{0, 1, 2, 3, 4, 5, 6, 20000}; !slices.Equal(got, want) {
		t.Errorf("%v, want %v", got, want)
	}
}
