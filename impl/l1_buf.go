package impl

const (
	CodeOK      = 0
	CodeBad     = 1
	CodeFull    = 2
	CodeCorrupt = 3
	CodeOld     = 4
	CodeReset   = 5
	CodeEnd     = 6
)

const MaxBuffer = 20000

// alignment is what the place of every part in a message is a multiple of.
const alignment = 8

// crcPolynomial is Ethernet's, with its bits in reverse.
const crcPolynomial = 0xedb88320

// integer has a type for each form that a number in bytes may have.
type integer interface {
	int8 | int16 | int32 | int64 | uint16 | uint32 | uint64
}

func PackBits(bits []bool) []byte {
	b := make([]byte, bytesForBits(len(bits)))
	for i, bit := range bits {
		if bit {
			b[i/8] |= byte(1) << (i % 8)
		}
	}
	return b
}

func UnpackBits(b []byte, n int) ([]bool, int) {
	if n < 0 {
		return nil, CodeBad
	}
	if len(b) != bytesForBits(n) || !unusedBitsClear(b, n) {
		return nil, CodeCorrupt
	}
	bits := make([]bool, n)
	for i := range bits {
		bits[i] = b[i/8]>>(i%8)&1 == 1
	}
	return bits, CodeOK
}

// bytesForBits divides before it rounds up: n + 7 would wrap round for the greatest n.
func bytesForBits(n int) int {
	if n%8 == 0 {
		return n / 8
	}
	return n/8 + 1
}

// unusedBitsClear holds when no bit of b behind the first n is set; b has just the bytes for n bits.
func unusedBitsClear(b []byte, n int) bool {
	return n%8 == 0 || b[len(b)-1]>>(n%8) == 0
}

func PackInts(values []int, width int) ([]byte, int) {
	switch width {
	case 1:
		return packAs[int8](values, width)
	case 2:
		return packAs[int16](values, width)
	case 4:
		return packAs[int32](values, width)
	case 8:
		return packAs[int64](values, width)
	}
	return nil, CodeBad
}

func UnpackInts(b []byte, width int) ([]int, int) {
	switch width {
	case 1:
		return unpackAs[int8](b, width)
	case 2:
		return unpackAs[int16](b, width)
	case 4:
		return unpackAs[int32](b, width)
	case 8:
		return unpackAs[int64](b, width)
	}
	return nil, CodeBad
}

// packAs takes T as the measure of what fits: a value that does not outlive the way there and back is too great.
func packAs[T integer](values []int, width int) ([]byte, int) {
	b := make([]byte, 0, len(values)*width)
	for _, v := range values {
		n := T(v)
		if int(n) != v {
			return nil, CodeBad
		}
		b = appendNumber(b, n, width)
	}
	return b, CodeOK
}

func unpackAs[T integer](b []byte, width int) ([]int, int) {
	if len(b)%width != 0 {
		return nil, CodeCorrupt
	}
	values := make([]int, len(b)/width)
	for i := range values {
		values[i] = int(readNumber[T](b[i*width : (i+1)*width]))
	}
	return values, CodeOK
}

func appendNumber[T integer](b []byte, n T, width int) []byte {
	rest := uint64(n)
	for range width {
		b = append(b, byte(rest))
		rest >>= 8
	}
	return b
}

// readNumber leaves the sign to the conversion to T, whose highest bit is that of the last byte.
func readNumber[T integer](b []byte) T {
	var bits uint64
	for i, x := range b {
		bits |= uint64(x) << (8 * i)
	}
	return T(bits)
}

func JoinAligned(parts [][]byte) []byte {
	var joined []byte
	for _, part := range parts {
		joined = append(joined, part...)
		for len(joined)%alignment != 0 {
			joined = append(joined, 0)
		}
	}
	return joined
}

func Crc32(b []byte) uint32 {
	table := crcTable()
	h := uint32(0xffffffff)
	for _, x := range b {
		h = h>>8 ^ table[byte(h)^x]
	}
	return h ^ 0xffffffff
}

// crcTable has, for each byte, what the eight steps of the checksum make of it.
func crcTable() [256]uint32 {
	var table [256]uint32
	for i := range table {
		h := uint32(i)
		for range 8 {
			if h%2 == 1 {
				h = h/2 ^ crcPolynomial
			} else {
				h /= 2
			}
		}
		table[i] = h
	}
	return table
}
