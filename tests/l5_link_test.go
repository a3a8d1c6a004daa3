package tests

import (
	"bytes"
	"encoding/binary"
	"math"
	"slices"
	"strconv"
	"strings"
	"testing"

	"loop.example/s01316/impl"
)

// data is a packet of the epoch 1.
func data(seq int, content string, last bool) impl.Packet {
	return impl.Packet{Kind: impl.PackData, Epoch: 1, Seq: seq, Last: last, Data: []byte(content)}
}

func ack(epoch, seq, count int) impl.Packet {
	return impl.Packet{Kind: impl.PackAck, Epoch: epoch, Seq: seq, Count: count}
}

func reset(epoch, count int) impl.Packet {
	return impl.Packet{Kind: impl.PackReset, Epoch: epoch, Count: count}
}

func ping(epoch int) impl.Packet { return impl.Packet{Kind: impl.PackPing, Epoch: epoch} }

// packetByHand has the document's bytes of a packet, valid or not; it needs none of the program's functions.
func packetByHand(p impl.Packet) []byte {
	b := []byte{67, byte(p.Kind)}
	b = binary.LittleEndian.AppendUint32(b, uint32(p.Epoch))
	b = binary.LittleEndian.AppendUint64(b, uint64(p.Seq))
	b = binary.LittleEndian.AppendUint32(b, uint32(p.Count))
	if p.Last {
		b = append(b, 1)
	} else {
		b = append(b, 0)
	}
	b = binary.LittleEndian.AppendUint16(b, uint16(len(p.Data)))
	return sealed(append(b, p.Data...))
}

func samePacket(a, b impl.Packet) bool {
	return a.Kind == b.Kind && a.Epoch == b.Epoch && a.Seq == b.Seq && a.Count == b.Count && a.Last == b.Last && bytes.Equal(a.Data, b.Data)
}

func between(n, least, greatest int) bool { return n >= least && n <= greatest }

func validPacketByHand(p impl.Packet) bool {
	if !between(p.Kind, 1, 4) || !between(p.Epoch, 1, 1e9) || !between(p.Seq, 0, 1e12) || !between(p.Count, 0, 1e9) {
		return false
	}
	if p.Kind == 1 {
		return p.Seq != 1e12 && p.Count == 0 && between(len(p.Data), 1, 100)
	}
	return !p.Last && len(p.Data) == 0 && (p.Seq == 0 || p.Kind == 2) && (p.Count == 0 || p.Kind != 4)
}

func checkPacketComesBack(t *testing.T, p impl.Packet) {
	t.Helper()
	want := packetByHand(p)
	if got := impl.EncodePacket(p); !bytes.Equal(got, want) {
		t.Fatalf("EncodePacket(%s) = %x; want %x", short(p), got, want)
	}
	if got, code := impl.DecodePacket(want); code != impl.CodeOK || !samePacket(got, p) {
		t.Fatalf("DecodePacket(%x) = %s, %d; want %s", want, short(got), code, short(p))
	}
}

func checkPacketNotDecoded(t *testing.T, b []byte) {
	t.Helper()
	if got, code := impl.DecodePacket(b); code != impl.CodeCorrupt || !samePacket(got, impl.Packet{}) {
		t.Errorf("DecodePacket(%.200x) = %s, %d; want none, CodeCorrupt", b, short(got), code)
	}
}

// checkPacketNotValid holds for the packet's bytes, too: they are not taken.
func checkPacketNotValid(t *testing.T, p impl.Packet) {
	t.Helper()
	if got := impl.EncodePacket(p); len(got) != 0 {
		t.Errorf("EncodePacket(%s) = %.200x; want none", short(p), got)
	}
	if between(p.Kind, 0, 255) && between(p.Epoch, 0, math.MaxUint32) && between(p.Count, 0, math.MaxUint32) && len(p.Data) < 1<<16 {
		checkPacketNotDecoded(t, packetByHand(p))
	}
}

// checkPacketIsEncoded holds an answer of DecodePacket against the document: there is a valid packet with just these bytes.
func checkPacketIsEncoded(t *testing.T, b []byte) bool {
	t.Helper()
	p, code := impl.DecodePacket(b)
	if code == impl.CodeCorrupt && samePacket(p, impl.Packet{}) {
		return false
	}
	if code != impl.CodeOK || !validPacketByHand(p) || !bytes.Equal(packetByHand(p), b) {
		t.Fatalf("DecodePacket(%.200x) = %s, %d", b, short(p), code)
	}
	return true
}

// everyPacket has packets of each kind, with the least and the greatest numbers.
func everyPacket() []impl.Packet {
	var packets []impl.Packet
	for _, epoch := range []int{1, 2, 256, 1 << 24, impl.MaxEpoch} {
		packets = append(packets, ping(epoch))
		for _, count := range []int{0, 1, 258, 1 << 24, impl.MaxIndex} {
			packets = append(packets, reset(epoch, count))
			for _, seq := range []int{0, 1, 1 << 32, impl.MaxSeq} {
				packets = append(packets, ack(epoch, seq, count))
			}
		}
		for _, seq := range []int{0, 1, 255, 1 << 32, impl.MaxSeq - 1} {
			for _, size := range []int{1, 2, 99, impl.MaxPayload} {
				p := impl.Packet{Kind: impl.PackData, Epoch: epoch, Seq: seq, Last: size%2 == 0, Data: bytes.Repeat([]byte{byte(seq), 7}, size)[:size]}
				packets = append(packets, p)
			}
		}
	}
	return packets
}

// P5
func TestPacketsComeBack(t *testing.T) {
	for _, p := range everyPacket() {
		if !validPacketByHand(p) {
			t.Fatal(p)
		}
		checkPacketComesBack(t, p)
		if p.Kind == impl.PackData {
			p.Last = !p.Last
			checkPacketComesBack(t, p)
		}
	}
	for size := 1; size <= impl.MaxPayload; size++ {
		checkPacketComesBack(t, data(size, strings.Repeat("x", size), false))
		checkPacketComesBack(t, impl.Packet{Kind: impl.PackData, Epoch: size, Data: make([]byte, size), Last: true})
	}
	for x := range 256 {
		checkPacketComesBack(t, data(x, string([]byte{byte(x)}), true))
	}
	for shift := range 39 {
		checkPacketComesBack(t, ack(1, 1<<shift, 1<<shift%impl.MaxIndex))
	}
}

// P5
func TestPacketsByteByByte(t *testing.T) {
	for _, c := range []struct {
		p    impl.Packet
		want []byte
	}{
		{impl.Packet{Kind: impl.PackData, Epoch: 0x01020304, Seq: 0x0a0b0c0d0e, Last: true, Data: []byte{0xaa, 0, 0xbb}},
			[]byte{67, 1, 4, 3, 2, 1, 0x0e, 0x0d, 0x0c, 0x0b, 0x0a, 0, 0, 0, 0, 0, 0, 0, 1, 3, 0, 0xaa, 0, 0xbb}},
		{data(0, "a", false), []byte{67, 1, 1, 0, 0, 0, 0, 0, 0, 0, 0, 0, 0, 0, 0, 0, 0, 0, 0, 1, 0, 'a'}},
		{ack(impl.MaxEpoch, impl.MaxSeq, 0x11121314),
			[]byte{67, 2, 0x00, 0xca, 0x9a, 0x3b, 0x00, 0x10, 0xa5, 0xd4, 0xe8, 0, 0, 0, 0x14, 0x13, 0x12, 0x11, 0, 0, 0}},
		{reset(7, impl.MaxIndex), []byte{67, 3, 7, 0, 0, 0, 0, 0, 0, 0, 0, 0, 0, 0, 0x00, 0xca, 0x9a, 0x3b, 0, 0, 0}},
		{ping(256), []byte{67, 4, 0, 1, 0, 0, 0, 0, 0, 0, 0, 0, 0, 0, 0, 0, 0, 0, 0, 0, 0}},
	} {
		if got := impl.EncodePacket(c.p); !bytes.Equal(got, sealed(c.want)) {
			t.Errorf("%v: %x", c.p, got)
		}
		if got, code := impl.DecodePacket(sealed(c.want)); code != impl.CodeOK || !samePacket(got, c.p) {
			t.Errorf("%v: %v, %d", c.p, got, code)
		}
	}
}

// P5: one number or part of a packet that is valid leaves its limits.
func TestPacketsThatAreNotValid(t *testing.T) {
	far := []int{math.MinInt, -1 << 32, -256, -1, 1 << 40, 1<<40 + 1, math.MaxInt}
	for _, good := range []impl.Packet{data(0, "x", true), data(5, "xyz", false), ack(1, 0, 0), ack(3, 9, 4), reset(1, 0), reset(2, 3), ping(1), ping(9)} {
		checkPacketComesBack(t, good)
		for _, kind := range append([]int{0, 5, 6, 255, 256, 257, 258, 259, 260, -255, -254, -253, -252}, far...) {
			p := good
			p.Kind = kind
			checkPacketNotValid(t, p)
		}
		for _, epoch := range append([]int{0, impl.MaxEpoch + 1, math.MaxUint32, 1<<32 + 1}, far...) {
			p := good
			p.Epoch = epoch
			checkPacketNotValid(t, p)
		}
		for _, seq := range append([]int{impl.MaxSeq + 1, 1 << 62}, far...) {
			p := good
			p.Seq = seq
			checkPacketNotValid(t, p)
		}
		for _, count := range append([]int{impl.MaxIndex + 1, math.MaxUint32, 1 << 32}, far...) {
			p := good
			p.Count = count
			checkPacketNotValid(t, p)
		}
	}
}

// P5
func TestPacketsOfEachKindThatAreNotValid(t *testing.T) {
	for _, size := range []int{0, impl.MaxPayload + 1, impl.MaxPayload + 2, 255, 256, 1 << 16, 1<<16 + 1, 1<<16 + impl.MaxPayload} {
		checkPacketNotValid(t, data(0, strings.Repeat("x", size), false))
		checkPacketNotValid(t, data(1, strings.Repeat("x", size), true))
	}
	checkPacketNotValid(t, data(impl.MaxSeq, "x", false))
	checkPacketNotValid(t, data(impl.MaxSeq, "x", true))
	for _, n := range []int{1, 2, impl.MaxIndex} {
		p := data(0, "x", true)
		p.Count = n
		checkPacketNotValid(t, p)
		p = reset(1, 0)
		p.Seq = n
		checkPacketNotValid(t, p)
		p = ping(1)
		p.Seq = n
		checkPacketNotValid(t, p)
		p = ping(1)
		p.Count = n
		checkPacketNotValid(t, p)
	}
	for _, good := range []impl.Packet{ack(1, 2, 3), ack(1, 0, 0), reset(1, 2), reset(1, 0), ping(1)} {
		p := good
		p.Last = true
		checkPacketNotValid(t, p)
		for _, size := range []int{1, 2, impl.MaxPayload, impl.MaxPayload + 1} {
			p = good
			p.Data = make([]byte, size)
			checkPacketNotValid(t, p)
		}
	}
	checkPacketNotValid(t, impl.Packet{})
}

// P5: all edges of all parts together.
func TestPacketsOfAllEdges(t *testing.T) {
	valid := 0
	for kind := -1; kind <= 6; kind++ {
		for _, epoch := range []int{-1, 0, 1, impl.MaxEpoch, impl.MaxEpoch + 1} {
			for _, seq := range []int{-1, 0, 1, impl.MaxSeq - 1, impl.MaxSeq, impl.MaxSeq + 1} {
				for _, count := range []int{-1, 0, 1, impl.MaxIndex, impl.MaxIndex + 1} {
					for _, size := range []int{0, 1, impl.MaxPayload, impl.MaxPayload + 1} {
						for _, last := range []bool{false, true} {
							p := impl.Packet{Kind: kind, Epoch: epoch, Seq: seq, Count: count, Last: last, Data: make([]byte, size)}
							if !validPacketByHand(p) {
								checkPacketNotValid(t, p)
								continue
							}
							valid++
							checkPacketComesBack(t, p)
						}
					}
				}
			}
		}
	}
	if want := 2 * (3*2*2 + 4*3 + 3 + 1); valid != want {
		t.Errorf("%d are valid; want %d", valid, want)
	}
}

// P5
func TestPacketsCutShortOrWithMoreBehind(t *testing.T) {
	for _, p := range everyPacket() {
		whole := packetByHand(p)
		for n := range len(whole) {
			checkPacketNotDecoded(t, whole[:n])
		}
		body := unsealed(whole)
		for n := range len(body) {
			checkPacketNotDecoded(t, sealed(body[:n]))
		}
		for more := 1; more <= 9; more++ {
			checkPacketNotDecoded(t, append(bytes.Clone(whole), make([]byte, more)...))
			checkPacketNotDecoded(t, sealed(append(bytes.Clone(body), make([]byte, more)...)))
		}
		checkPacketNotDecoded(t, sealed(whole))
		checkPacketNotDecoded(t, append(bytes.Clone(whole), whole...))
	}
	for _, b := range [][]byte{nil, {}, {67}, make([]byte, 21), make([]byte, 25), make([]byte, 125), make([]byte, 126), make([]byte, 1<<16)} {
		checkPacketNotDecoded(t, b)
		checkPacketNotDecoded(t, sealed(b))
	}
}

// P5
func TestPacketsWithOneBitChanged(t *testing.T) {
	for _, p := range everyPacket() {
		b := packetByHand(p)
		for bit := range 8 * len(b) {
			b[bit/8] ^= 1 << (bit % 8)
			checkPacketNotDecoded(t, b)
			b[bit/8] ^= 1 << (bit % 8)
		}
	}
}

// P5: with a checksum that fits, every byte takes every value.
func TestPacketsTakeEncodedBytesOnly(t *testing.T) {
	taken := 0
	for _, p := range []impl.Packet{data(0, "a", false), data(77, "abc", true), data(impl.MaxSeq-1, "z", true), ack(1, 0, 0), ack(impl.MaxEpoch, impl.MaxSeq, impl.MaxIndex), reset(1, 0), reset(300, 300), ping(1)} {
		body := unsealed(packetByHand(p))
		for at := range body {
			was := body[at]
			for x := range 256 {
				body[at] = byte(x)
				if checkPacketIsEncoded(t, sealed(body)) {
					taken++
				}
			}
			body[at] = was
		}
	}
	if taken < 3000 {
		t.Errorf("%d are taken", taken)
	}
}

// P5
func TestPacketsWithOtherParts(t *testing.T) {
	good := packetByHand(data(3, "abcd", true))
	changed := func(at int, to ...byte) []byte {
		body := unsealed(good)
		copy(body[at:], to)
		return sealed(body)
	}
	for _, b := range [][]byte{
		changed(0, 77), changed(0, 0), changed(0, 66), changed(1, 0), changed(1, 2), changed(1, 3), changed(1, 4), changed(1, 5), changed(1, 255),
		changed(2, 0), changed(5, 0x80), changed(2, 0x01, 0xca, 0x9a, 0x3b),
		changed(6, 0, 0x10, 0xa5, 0xd4, 0xe8), changed(13, 0x80), changed(6, 255, 255, 255, 255, 255, 255, 255, 255),
		changed(14, 1), changed(17, 0x80),
		changed(18, 2), changed(18, 3), changed(18, 0x80), changed(18, 255),
		changed(19, 0), changed(19, 3), changed(19, 5), changed(19, 4, 1), changed(19, 255, 255), changed(19, 0, 4),
	} {
		checkPacketNotDecoded(t, b)
	}
	for _, to := range [][]byte{{2, 2}, {5, 1}, {6, 9}, {10, 0xe7}, {18, 0}, {18, 1}, {21, 0}, {24, 255}} {
		if !checkPacketIsEncoded(t, changed(int(to[0]), to[1])) {
			t.Errorf("byte %d as %d", to[0], to[1])
		}
	}
}

// P5
func TestPacketsOfThrownBytes(t *testing.T) {
	below := diceOf(5)
	taken := 0
	for range 60000 {
		p := impl.Packet{Kind: 1 + below(4), Epoch: below(3), Seq: below(2), Count: below(2), Last: below(2) == 0, Data: make([]byte, below(3))}
		b := unsealed(packetByHand(p))
		if below(2) == 0 {
			b[below(len(b))] = byte(below(256))
		}
		if below(8) == 0 {
			b = append(b, byte(below(256)))
		}
		if checkPacketIsEncoded(t, sealed(b)) {
			taken++
		}
	}
	if taken < 3000 {
		t.Errorf("%d are taken", taken)
	}
	for range 20000 {
		b := make([]byte, below(140))
		for i := range b {
			b[i] = byte(below(256))
		}
		checkPacketIsEncoded(t, b)
		checkPacketIsEncoded(t, sealed(b))
	}
}

// outOf is the end with a packet waiting for each of the times, the last one with the number next - 1.
func outOf(epoch, next, now int, times ...int) impl.LinkOut {
	o := impl.LinkOut{Epoch: epoch, Next: next, Now: now}
	for i, at := range times {
		p := data(next-len(times)+i, "p"+strconv.Itoa(i), i%3 == 2)
		p.Epoch = epoch
		o.Waiting = append(o.Waiting, impl.Sent{Packet: p, At: at})
	}
	return o
}

// inOf is the end of the epoch 1 with packets held for each of the numbers.
func inOf(expect int, part string, seqs ...int) impl.LinkIn {
	in := impl.LinkIn{Epoch: 1, Expect: expect, Part: []byte(part)}
	for _, seq := range seqs {
		in.Held = append(in.Held, data(seq, "h"+strconv.Itoa(seq), seq%2 == 0))
	}
	return in
}

func sameSent(a, b impl.Sent) bool { return a.At == b.At && samePacket(a.Packet, b.Packet) }

func sameOut(a, b impl.LinkOut) bool {
	return a.Epoch == b.Epoch && a.Next == b.Next && a.Now == b.Now && slices.EqualFunc(a.Waiting, b.Waiting, sameSent)
}

func sameIn(a, b impl.LinkIn) bool {
	return a.Epoch == b.Epoch && a.Expect == b.Expect && slices.EqualFunc(a.Held, b.Held, samePacket) && bytes.Equal(a.Part, b.Part)
}

func copyOut(o impl.LinkOut) impl.LinkOut {
	o.Waiting = slices.Clone(o.Waiting)
	for i := range o.Waiting {
		o.Waiting[i].Packet.Data = bytes.Clone(o.Waiting[i].Packet.Data)
	}
	return o
}

func copyIn(in impl.LinkIn) impl.LinkIn {
	in.Held = slices.Clone(in.Held)
	for i := range in.Held {
		in.Held[i].Data = bytes.Clone(in.Held[i].Data)
	}
	in.Part = bytes.Clone(in.Part)
	return in
}

// validOutByHand and the other functions by hand follow the document's words; they need none of the program's functions.
func validOutByHand(o impl.LinkOut) bool {
	if !between(o.Epoch, 1, 1e9) || !between(o.Next, 0, 1e12) || !between(o.Now, 0, 1e9) || len(o.Waiting) > 300 {
		return false
	}
	seq := o.Next
	for _, w := range slices.Backward(o.Waiting) {
		seq--
		if !validPacketByHand(w.Packet) || w.Packet.Kind != 1 || w.Packet.Epoch != o.Epoch || w.Packet.Seq != seq || !between(w.At, -1, o.Now) {
			return false
		}
	}
	return true
}

func validInByHand(in impl.LinkIn) bool {
	if !between(in.Epoch, 0, 1e9) || !between(in.Expect, 0, 1e12) || len(in.Part) > 20000 {
		return false
	}
	for i, p := range in.Held {
		if !validPacketByHand(p) || p.Kind != 1 || p.Epoch != in.Epoch || !between(p.Seq, in.Expect+1, in.Expect+7) || i > 0 && in.Held[i-1].Seq >= p.Seq {
			return false
		}
	}
	return true
}

func pushByHand(o impl.LinkOut, message []byte) (impl.LinkOut, int) {
	if !validOutByHand(o) || !between(len(message), 1, 20000) {
		return impl.LinkOut{}, impl.CodeBad
	}
	next := copyOut(o)
	for piece := range slices.Chunk(message, 100) {
		p := impl.Packet{Kind: 1, Epoch: o.Epoch, Seq: next.Next, Data: bytes.Clone(piece)}
		next.Waiting = append(next.Waiting, impl.Sent{Packet: p, At: -1})
		next.Next++
	}
	next.Waiting[len(next.Waiting)-1].Packet.Last = true
	if len(next.Waiting) > 300 {
		return copyOut(o), impl.CodeFull
	}
	if next.Next > 1e12 {
		return copyOut(o), impl.CodeEnd
	}
	return next, impl.CodeOK
}

func tickByHand(o impl.LinkOut) (impl.LinkOut, [][]byte, int) {
	if !validOutByHand(o) {
		return impl.LinkOut{}, nil, impl.CodeBad
	}
	next := copyOut(o)
	if o.Now == 1e9 {
		return next, nil, impl.CodeEnd
	}
	next.Now++
	var datagrams [][]byte
	for i, w := range o.Waiting {
		if i < 8 && (w.At == -1 || next.Now-w.At >= 4) {
			next.Waiting[i].At = next.Now
			datagrams = append(datagrams, packetByHand(w.Packet))
		}
	}
	return next, datagrams, impl.CodeOK
}

func ackedByHand(o impl.LinkOut, seq int) (impl.LinkOut, int) {
	if !validOutByHand(o) || !between(seq, 0, o.Next) {
		return impl.LinkOut{}, impl.CodeBad
	}
	next := copyOut(o)
	next.Waiting = slices.DeleteFunc(next.Waiting, func(w impl.Sent) bool { return w.Packet.Seq < seq })
	return next, impl.CodeOK
}

func takeByHand(in impl.LinkIn, p impl.Packet) (impl.LinkIn, [][]byte, int) {
	if !validInByHand(in) || !validPacketByHand(p) || p.Kind != 1 || p.Epoch != in.Epoch {
		return impl.LinkIn{}, nil, impl.CodeBad
	}
	isHeld := slices.ContainsFunc(in.Held, func(q impl.Packet) bool { return q.Seq == p.Seq })
	if isHeld || p.Seq < in.Expect || p.Seq >= in.Expect+8 {
		return copyIn(in), nil, impl.CodeOld
	}
	next := copyIn(in)
	next.Held = append(next.Held, p)
	slices.SortFunc(next.Held, func(a, b impl.Packet) int { return a.Seq - b.Seq })
	var messages [][]byte
	for len(next.Held) > 0 && next.Held[0].Seq == next.Expect {
		first := next.Held[0]
		next.Held = next.Held[1:]
		next.Expect++
		next.Part = slices.Concat(next.Part, first.Data)
		if len(next.Part) > 20000 {
			return copyIn(in), nil, impl.CodeCorrupt
		}
		if first.Last {
			messages = append(messages, next.Part)
			next.Part = nil
		}
	}
	return next, messages, impl.CodeOK
}

// The four checks hold an answer against the one by hand, and hand it on.

func checkPush(t *testing.T, o impl.LinkOut, message []byte) (impl.LinkOut, int) {
	t.Helper()
	want, wantCode := pushByHand(o, message)
	got, code := impl.LinkPush(o, message)
	if code != wantCode || !sameOut(got, want) {
		t.Fatalf("LinkPush(%s, %d bytes) = %s, %d; want %s, %d", short(o), len(message), short(got), code, short(want), wantCode)
	}
	if code != impl.CodeBad && !impl.ValidOut(got) {
		t.Fatalf("LinkPush(%s, %d bytes): the end is not valid", short(o), len(message))
	}
	return got, code
}

func checkTick(t *testing.T, o impl.LinkOut) (impl.LinkOut, [][]byte, int) {
	t.Helper()
	want, wantDatagrams, wantCode := tickByHand(o)
	got, datagrams, code := impl.LinkTick(o)
	if code != wantCode || !sameOut(got, want) || !sameLists(datagrams, wantDatagrams) {
		t.Fatalf("LinkTick(%s) = %s, %d datagrams, %d; want %s, %d, %d", short(o), short(got), len(datagrams), code, short(want), len(wantDatagrams), wantCode)
	}
	if code != impl.CodeBad && !impl.ValidOut(got) {
		t.Fatalf("LinkTick(%s): the end is not valid", short(o))
	}
	return got, datagrams, code
}

func checkAcked(t *testing.T, o impl.LinkOut, seq int) (impl.LinkOut, int) {
	t.Helper()
	want, wantCode := ackedByHand(o, seq)
	got, code := impl.LinkAcked(o, seq)
	if code != wantCode || !sameOut(got, want) {
		t.Fatalf("LinkAcked(%s, %d) = %s, %d; want %s, %d", short(o), seq, short(got), code, short(want), wantCode)
	}
	if code != impl.CodeBad && !impl.ValidOut(got) {
		t.Fatalf("LinkAcked(%s, %d): the end is not valid", short(o), seq)
	}
	return got, code
}

func checkTake(t *testing.T, in impl.LinkIn, p impl.Packet) (impl.LinkIn, [][]byte, int) {
	t.Helper()
	want, wantMessages, wantCode := takeByHand(in, p)
	got, messages, code := impl.LinkTake(in, p)
	if code != wantCode || !sameIn(got, want) || !sameLists(messages, wantMessages) {
		t.Fatalf("LinkTake(%s, %s) = %s, %s, %d; want %s, %s, %d", short(in), short(p), short(got), short(messages), code, short(want), short(wantMessages), wantCode)
	}
	if code != impl.CodeBad && !impl.ValidIn(got) {
		t.Fatalf("LinkTake(%s, %s): the end is not valid", short(in), short(p))
	}
	return got, messages, code
}

// checkOut holds ValidOut against what is wanted; an end that is not valid is CodeBad for all functions.
func checkOut(t *testing.T, what string, o impl.LinkOut, want bool) {
	t.Helper()
	if got := impl.ValidOut(o); got != want || validOutByHand(o) != want {
		t.Fatalf("%s: ValidOut = %v; want %v", what, got, want)
	}
	_, pushed := checkPush(t, o, []byte("x"))
	_, _, ticked := checkTick(t, o)
	_, acked := checkAcked(t, o, 0)
	if (pushed != impl.CodeBad) != want || (ticked != impl.CodeBad) != want || (acked != impl.CodeBad) != want {
		t.Errorf("%s: codes %d, %d, %d", what, pushed, ticked, acked)
	}
}

func checkIn(t *testing.T, what string, in impl.LinkIn, want bool) {
	t.Helper()
	if got := impl.ValidIn(in); got != want || validInByHand(in) != want {
		t.Fatalf("%s: ValidIn = %v; want %v", what, got, want)
	}
	p := data(max(in.Expect-1, 0), "x", true)
	p.Epoch = in.Epoch
	if _, _, code := checkTake(t, in, p); want == (code == impl.CodeBad) && in.Epoch != 0 && validPacketByHand(p) {
		t.Errorf("%s: code %d", what, code)
	}
}

func TestOutNumbers(t *testing.T) {
	for _, epoch := range []int{math.MinInt, -1, 0, 1, 2, impl.MaxEpoch, impl.MaxEpoch + 1, math.MaxInt} {
		checkOut(t, "epoch", impl.LinkOut{Epoch: epoch}, between(epoch, 1, impl.MaxEpoch))
		checkOut(t, "epoch, with packets", outOf(epoch, 5, 3, 1, -1), between(epoch, 1, impl.MaxEpoch))
	}
	for _, next := range []int{math.MinInt, -1, 0, 1, impl.MaxSeq - 1, impl.MaxSeq, impl.MaxSeq + 1, math.MaxInt} {
		checkOut(t, "next", impl.LinkOut{Epoch: 1, Next: next}, between(next, 0, impl.MaxSeq))
		checkOut(t, "next, with a packet", outOf(1, next, 0, -1), between(next, 1, impl.MaxSeq))
		checkOut(t, "next, with packets", outOf(1, next, 0, 0, 0, 0), between(next, 3, impl.MaxSeq))
	}
	for _, now := range []int{math.MinInt, -2, -1, 0, 1, impl.MaxNow - 1, impl.MaxNow, impl.MaxNow + 1, math.MaxInt} {
		checkOut(t, "now", impl.LinkOut{Epoch: 1, Now: now}, between(now, 0, impl.MaxNow))
		checkOut(t, "now, with packets", outOf(1, 9, now, -1, -1), between(now, 0, impl.MaxNow))
	}
}

func TestOutNumberOfPackets(t *testing.T) {
	for _, n := range []int{0, 1, impl.Window, impl.MaxWaiting - 1, impl.MaxWaiting, impl.MaxWaiting + 1, 2 * impl.MaxWaiting} {
		times := slices.Repeat([]int{-1}, n)
		for _, more := range []int{-1, 0, 1, impl.MaxSeq - n} {
			checkOut(t, strconv.Itoa(n)+" packets", outOf(1, n+more, 0, times...), n <= impl.MaxWaiting && (more >= 0))
		}
	}
}

// Each packet of an end that is valid is changed in turn.
func TestOutPackets(t *testing.T) {
	good := outOf(3, 9, 7, 7, 5, -1, 0)
	checkOut(t, "as it is", good, true)
	for i := range good.Waiting {
		changed := func(change func(w *impl.Sent)) impl.LinkOut {
			o := copyOut(good)
			change(&o.Waiting[i])
			return o
		}
		for _, by := range []int{-4, -1, 1, 4, 256, 1 << 32} {
			checkOut(t, "Seq", changed(func(w *impl.Sent) { w.Packet.Seq += by }), false)
		}
		for _, epoch := range []int{0, 2, 4} {
			checkOut(t, "Epoch", changed(func(w *impl.Sent) { w.Packet.Epoch = epoch }), false)
		}
		for at := -3; at <= 10; at++ {
			checkOut(t, "At", changed(func(w *impl.Sent) { w.At = at }), between(at, -1, 7))
		}
		for _, at := range []int{math.MinInt, math.MaxInt} {
			checkOut(t, "At", changed(func(w *impl.Sent) { w.At = at }), false)
		}
		for _, kind := range []int{0, impl.PackAck, impl.PackReset, impl.PackPing, 5} {
			checkOut(t, "Kind", changed(func(w *impl.Sent) { w.Packet.Kind = kind }), false)
		}
		checkOut(t, "an ack", changed(func(w *impl.Sent) { w.Packet = ack(3, w.Packet.Seq, 0) }), false)
		checkOut(t, "Count", changed(func(w *impl.Sent) { w.Packet.Count = 1 }), false)
		checkOut(t, "Last", changed(func(w *impl.Sent) { w.Packet.Last = !w.Packet.Last }), true)
		for _, size := range []int{0, 1, impl.MaxPayload, impl.MaxPayload + 1} {
			checkOut(t, "Data", changed(func(w *impl.Sent) { w.Packet.Data = make([]byte, size) }), between(size, 1, impl.MaxPayload))
		}
	}
}

func TestOutSeqs(t *testing.T) {
	good := outOf(1, 9, 0, -1, -1, -1)
	for _, seqs := range [][]int{{5, 7, 8}, {6, 6, 8}, {6, 8, 8}, {8, 7, 6}, {6, 8, 7}, {5, 6, 7}, {7, 8, 9}, {0, 1, 2}, {6, 7, 9}, {5, 6, 8}} {
		o := copyOut(good)
		for i, seq := range seqs {
			o.Waiting[i].Packet.Seq = seq
		}
		checkOut(t, "other Seqs", o, false)
	}
	for next := 0; next <= 12; next++ {
		o := copyOut(good)
		o.Next = next
		checkOut(t, "another Next", o, next == 9)
	}
	checkOut(t, "another Epoch", impl.LinkOut{Epoch: 2, Next: 9, Waiting: good.Waiting}, false)
	reached := outOf(1, 3, 0, -1, -1, -1)
	checkOut(t, "from 0 on", reached, true)
	below := outOf(1, 2, 0, -1, -1, -1)
	checkOut(t, "from -1 on", below, false)
}

func TestInNumbers(t *testing.T) {
	for _, epoch := range []int{math.MinInt, -1, 0, 1, 2, impl.MaxEpoch, impl.MaxEpoch + 1, math.MaxInt} {
		checkIn(t, "epoch", impl.LinkIn{Epoch: epoch}, between(epoch, 0, impl.MaxEpoch))
		in := inOf(4, "part", 6, 9)
		in.Epoch = epoch
		checkIn(t, "epoch, with packets of 1", in, epoch == 1)
		for i := range in.Held {
			in.Held[i].Epoch = epoch
		}
		checkIn(t, "epoch, with packets of it", in, between(epoch, 1, impl.MaxEpoch))
	}
	for _, expect := range []int{math.MinInt, -1, 0, 1, impl.MaxSeq - 1, impl.MaxSeq, impl.MaxSeq + 1, math.MaxInt - 8, math.MaxInt} {
		checkIn(t, "expect", inOf(expect, ""), between(expect, 0, impl.MaxSeq))
		checkIn(t, "expect, with a packet", inOf(expect, "", expect+1), between(expect, 0, impl.MaxSeq-2))
	}
	checkIn(t, "the last number", inOf(impl.MaxSeq-2, "", impl.MaxSeq-1), true)
	checkIn(t, "one number behind it", inOf(impl.MaxSeq-2, "", impl.MaxSeq-1, impl.MaxSeq), false)
	for _, size := range []int{0, 1, impl.MaxBuffer - 1, impl.MaxBuffer, impl.MaxBuffer + 1, 2 * impl.MaxBuffer} {
		checkIn(t, "part", inOf(0, strings.Repeat("x", size)), size <= impl.MaxBuffer)
		checkIn(t, "part, with a packet", inOf(0, strings.Repeat("x", size), 1), size <= impl.MaxBuffer)
	}
	checkIn(t, "the zero end", impl.LinkIn{}, true)
}

func TestInHeld(t *testing.T) {
	for _, expect := range []int{0, 1, 4, 1 << 32, impl.MaxSeq - 20} {
		for by := -9; by <= 20; by++ {
			checkIn(t, "one packet", inOf(expect, "", expect+by), between(by, 1, impl.Window-1))
		}
	}
	listsOver([]int{3, 4, 5, 6, 11, 12}, 3, func(seqs []int) {
		ascending := seqs[0] < seqs[1] && seqs[1] < seqs[2]
		checkIn(t, "three packets", inOf(4, "", seqs...), ascending && seqs[0] > 4 && seqs[2] < 12)
	})
	checkIn(t, "all places", inOf(4, "x", 5, 6, 7, 8, 9, 10, 11), true)
	checkIn(t, "all places, and one more", inOf(4, "x", 5, 6, 7, 8, 9, 10, 11, 12), false)
	checkIn(t, "all places, and one twice", inOf(4, "x", 5, 6, 7, 8, 9, 10, 11, 11), false)
	checkIn(t, "all places, turned round", inOf(4, "x", 11, 10, 9, 8, 7, 6, 5), false)
}

// Each packet of an end that is valid is changed in turn.
func TestInPackets(t *testing.T) {
	good := inOf(4, "part", 5, 7, 11)
	checkIn(t, "as it is", good, true)
	for i := range good.Held {
		changed := func(change func(p *impl.Packet)) impl.LinkIn {
			in := copyIn(good)
			change(&in.Held[i])
			return in
		}
		for _, epoch := range []int{0, 2, impl.MaxEpoch} {
			checkIn(t, "Epoch", changed(func(p *impl.Packet) { p.Epoch = epoch }), false)
		}
		for _, kind := range []int{0, impl.PackAck, impl.PackReset, impl.PackPing, 5} {
			checkIn(t, "Kind", changed(func(p *impl.Packet) { p.Kind = kind }), false)
		}
		checkIn(t, "an ack", changed(func(p *impl.Packet) { *p = ack(1, p.Seq, 0) }), false)
		checkIn(t, "Count", changed(func(p *impl.Packet) { p.Count = 1 }), false)
		checkIn(t, "Last", changed(func(p *impl.Packet) { p.Last = !p.Last }), true)
		for _, size := range []int{0, 1, impl.MaxPayload, impl.MaxPayload + 1} {
			checkIn(t, "Data", changed(func(p *impl.Packet) { p.Data = make([]byte, size) }), between(size, 1, impl.MaxPayload))
		}
	}
}

// lettered has n bytes, no two neighbours of which are the same, nor the pieces of a packet's size.
func lettered(n int) []byte {
	b := make([]byte, n)
	for i := range b {
		b[i] = byte(i%251 + i/251)
	}
	return b
}

// P9
func TestPushOfEachLength(t *testing.T) {
	ends := []impl.LinkOut{{Epoch: 1}, outOf(1, 3, 9, 9, 5, -1), outOf(impl.MaxEpoch, 1<<33, 4, 0), {Epoch: 2, Next: 77, Now: impl.MaxNow}}
	for _, n := range []int{0, 1, 2, 99, 100, 101, 199, 200, 201, 250, 19899, 19900, 19901, 19999, 20000, 20001, 20100, 1 << 20} {
		for _, o := range ends {
			next, code := checkPush(t, o, lettered(n))
			want := impl.CodeOK
			if n == 0 || n > impl.MaxBuffer {
				want = impl.CodeBad
			}
			if code != want {
				t.Errorf("%d bytes: code %d", n, code)
			}
			if pieces := (n + 99) / 100; code == impl.CodeOK && (next.Next != o.Next+pieces || len(next.Waiting) != len(o.Waiting)+pieces) {
				t.Errorf("%d bytes: Next %d, %d waiting", n, next.Next, len(next.Waiting))
			}
		}
	}
}

// P9
func TestPushPacketByPacket(t *testing.T) {
	message := lettered(2*impl.MaxPayload + 1)
	o, code := impl.LinkPush(outOf(6, 12, 5, 3), message)
	if code != impl.CodeOK || o.Epoch != 6 || o.Next != 15 || o.Now != 5 || len(o.Waiting) != 4 || o.Waiting[0].At != 3 {
		t.Fatalf("%v, %d", o, code)
	}
	for i, piece := range [][]byte{message[:100], message[100:200], message[200:]} {
		want := impl.Sent{Packet: impl.Packet{Kind: impl.PackData, Epoch: 6, Seq: 12 + i, Last: i == 2, Data: piece}, At: -1}
		if !sameSent(o.Waiting[1+i], want) {
			t.Errorf("piece %d: %v", i, o.Waiting[1+i])
		}
	}
	// A message of just so many bytes has no empty piece behind it.
	o, _ = impl.LinkPush(impl.LinkOut{Epoch: 1}, message[:200])
	if len(o.Waiting) != 2 || o.Waiting[0].Packet.Last || !o.Waiting[1].Packet.Last {
		t.Errorf("%v", o.Waiting)
	}
}

func TestPushWithLittleRoom(t *testing.T) {
	for _, n := range []int{1, 100, 101, 200, 201, 1000, 1001, 19901, 20000} {
		pieces := (n + 99) / 100
		for places, want := range map[int]int{pieces - 1: impl.CodeFull, pieces: impl.CodeOK, pieces + 1: impl.CodeOK, 0: impl.CodeFull} {
			o := outOf(1, 5000, 2, slices.Repeat([]int{-1}, impl.MaxWaiting-places)...)
			if _, code := checkPush(t, o, lettered(n)); code != want {
				t.Errorf("%d bytes with %d places: code %d; want %d", n, places, code, want)
			}
		}
		for left, want := range map[int]int{pieces - 1: impl.CodeEnd, pieces: impl.CodeOK, pieces + 1: impl.CodeOK, 0: impl.CodeEnd} {
			for _, times := range [][]int{nil, {-1}, {0, -1, -1}} {
				o := outOf(1, impl.MaxSeq-left, 2, times...)
				if _, code := checkPush(t, o, lettered(n)); code != want {
					t.Errorf("%d bytes with %d numbers left: code %d; want %d", n, left, code, want)
				}
			}
		}
		both := outOf(1, impl.MaxSeq, 2, slices.Repeat([]int{-1}, impl.MaxWaiting)...)
		if _, code := checkPush(t, both, lettered(n)); code != impl.CodeFull {
			t.Errorf("%d bytes with neither places nor numbers left: code %d", n, code)
		}
	}
}

// P8
func TestTickSendsAtEachAge(t *testing.T) {
	for now := range 12 {
		for at := -1; at <= now; at++ {
			o := outOf(1, 40, now, at)
			next, datagrams, code := checkTick(t, o)
			due := at == -1 || now+1-at >= impl.Timeout
			if code != impl.CodeOK || next.Now != now+1 || (len(datagrams) == 1) != due {
				t.Errorf("sent at %d, tick %d: %d datagrams, code %d", at, now+1, len(datagrams), code)
			}
			if want := map[bool]int{true: now + 1, false: at}[due]; next.Waiting[0].At != want {
				t.Errorf("sent at %d, tick %d: At %d", at, now+1, next.Waiting[0].At)
			}
			if due && !bytes.Equal(datagrams[0], packetByHand(o.Waiting[0].Packet)) {
				t.Errorf("the datagram is %x", datagrams[0])
			}
		}
	}
}

// P8: whatever the times are, no packet behind the window is sent.
func TestTickWithinTheWindow(t *testing.T) {
	for n := range impl.MaxWaiting + 1 {
		for _, at := range []int{-1, 0, 6, 7, 8, 9} {
			o := outOf(1, 1000, 9, slices.Repeat([]int{at}, n)...)
			next, datagrams, code := checkTick(t, o)
			want := min(n, impl.Window)
			if at > 6 {
				want = 0
			}
			if code != impl.CodeOK || len(datagrams) != want {
				t.Fatalf("%d packets, all sent at %d: %d datagrams, code %d", n, at, len(datagrams), code)
			}
			for i, w := range next.Waiting {
				if (w.At == 10) != (i < want) {
					t.Fatalf("%d packets, all sent at %d: number %d has %d", n, at, i, w.At)
				}
			}
		}
	}
	listsOver([]int{-1, 5, 6}, impl.Window, func(times []int) {
		checkTick(t, outOf(1, 99, 8, append(times, -1, 0, 5)...))
	})
}

func TestTickAtTheEnd(t *testing.T) {
	for _, times := range [][]int{nil, {-1}, {0, 7, impl.MaxNow}, slices.Repeat([]int{-1}, impl.MaxWaiting)} {
		for now, want := range map[int]int{impl.MaxNow: impl.CodeEnd, impl.MaxNow - 1: impl.CodeOK, 0: impl.CodeOK} {
			o := outOf(1, 400, now, times...)
			for i := range o.Waiting {
				o.Waiting[i].At = min(o.Waiting[i].At, now)
			}
			if _, _, code := checkTick(t, o); code != want {
				t.Errorf("at %d: code %d; want %d", now, code, want)
			}
		}
	}
	if _, datagrams, _ := checkTick(t, outOf(1, 1, impl.MaxNow-1, impl.MaxNow-impl.Timeout)); len(datagrams) != 1 {
		t.Errorf("%d datagrams at the last tick", len(datagrams))
	}
}

// P8: through all ticks, with packets pushed and acknowledged in between.
func TestTicksOneAfterAnother(t *testing.T) {
	for seed := range uint32(60) {
		below := diceOf(seed)
		o := impl.LinkOut{Epoch: 1 + below(3), Next: below(5), Now: below(3)}
		sentAt := map[int]int{}
		most := 0
		for range 150 {
			switch below(4) {
			case 0:
				o, _ = checkPush(t, o, lettered(1+below(900)))
			case 1:
				if len(o.Waiting) > 0 {
					o, _ = checkAcked(t, o, o.Waiting[0].Packet.Seq+below(min(len(o.Waiting), impl.Window)+1))
				}
			default:
				next, datagrams, code := checkTick(t, o)
				if code != impl.CodeOK || len(datagrams) > impl.Window {
					t.Fatalf("%d datagrams, code %d", len(datagrams), code)
				}
				most = max(most, len(datagrams))
				for _, b := range datagrams {
					p, _ := impl.DecodePacket(b)
					if at, ok := sentAt[p.Seq]; ok && next.Now-at < impl.Timeout {
						t.Fatalf("packet %d at %d and at %d", p.Seq, at, next.Now)
					}
					if p.Seq < o.Waiting[0].Packet.Seq || p.Seq >= o.Waiting[0].Packet.Seq+impl.Window {
						t.Fatalf("packet %d is behind the window", p.Seq)
					}
					sentAt[p.Seq] = next.Now
				}
				o = next
			}
		}
		if most != impl.Window {
			t.Errorf("seed %d: at most %d at once", seed, most)
		}
	}
}

func TestAcked(t *testing.T) {
	for _, n := range []int{0, 1, 3, impl.Window, impl.Window + 1, impl.MaxWaiting} {
		for _, first := range []int{0, 1, 7, impl.MaxSeq - n} {
			o := outOf(1, first+n, 6, slices.Repeat([]int{2}, n)...)
			for _, seq := range []int{math.MinInt, -1, 0, 1, first - 1, first, first + 1, first + n - 1, first + n, first + n + 1, math.MaxInt} {
				next, code := checkAcked(t, o, seq)
				if seq < 0 || seq > o.Next {
					if code != impl.CodeBad {
						t.Errorf("%d of %d: code %d", seq, o.Next, code)
					}
					continue
				}
				if left := min(n, first+n-seq); code != impl.CodeOK || len(next.Waiting) != left || next.Next != o.Next || next.Now != 6 {
					t.Errorf("%d of %d: %d are left, code %d", seq, o.Next, len(next.Waiting), code)
				}
			}
		}
	}
	o := outOf(1, 9, 7, 1, 3, 5, -1)
	for seq := range 11 {
		checkAcked(t, o, seq)
	}
}

func joined(messages [][]byte) string { return string(bytes.Join(messages, []byte("|"))) }

// P9
func TestTakeStepByStep(t *testing.T) {
	in := impl.LinkIn{Epoch: 1, Expect: 20}
	for i, step := range []struct {
		p      impl.Packet
		code   int
		expect int
		held   []int
		part   string
		whole  string
	}{
		{data(19, "z", true), impl.CodeOld, 20, nil, "", ""},
		{data(20, "ab", false), impl.CodeOK, 21, nil, "ab", ""},
		{data(20, "ab", false), impl.CodeOld, 21, nil, "ab", ""},
		{data(29, "z", true), impl.CodeOld, 21, nil, "ab", ""},
		{data(28, "q", true), impl.CodeOK, 21, []int{28}, "ab", ""},
		{data(23, "e", false), impl.CodeOK, 21, []int{23, 28}, "ab", ""},
		{data(23, "e", false), impl.CodeOld, 21, []int{23, 28}, "ab", ""},
		{data(28, "q", true), impl.CodeOld, 21, []int{23, 28}, "ab", ""},
		{data(22, "d", true), impl.CodeOK, 21, []int{22, 23, 28}, "ab", ""},
		{data(24, "f", true), impl.CodeOK, 21, []int{22, 23, 24, 28}, "ab", ""},
		{data(25, "g", true), impl.CodeOK, 21, []int{22, 23, 24, 25, 28}, "ab", ""},
		{data(26, "h", false), impl.CodeOK, 21, []int{22, 23, 24, 25, 26, 28}, "ab", ""},
		{data(21, "c", false), impl.CodeOK, 27, []int{28}, "h", "abcd|ef|g"},
		{data(21, "c", false), impl.CodeOld, 27, []int{28}, "h", ""},
		{data(34, "x", true), impl.CodeOK, 27, []int{28, 34}, "h", ""},
		{data(35, "x", true), impl.CodeOld, 27, []int{28, 34}, "h", ""},
		{data(27, "i", true), impl.CodeOK, 29, []int{34}, "", "hi|q"},
		{data(29, "j", true), impl.CodeOK, 30, []int{34}, "", "j"},
	} {
		next, messages, code := checkTake(t, in, step.p)
		var held []int
		for _, p := range next.Held {
			held = append(held, p.Seq)
		}
		if code != step.code || next.Expect != step.expect || !slices.Equal(held, step.held) || string(next.Part) != step.part || joined(messages) != step.whole {
			t.Errorf("step %d: %v, %s, code %d", i, next, messages, code)
		}
		in = next
	}
}

func TestTakeAtTheEndsOfTheWindow(t *testing.T) {
	for _, expect := range []int{0, 1, 7, 8, 9, 1 << 40 % impl.MaxSeq, impl.MaxSeq - 9, impl.MaxSeq - 8} {
		for _, in := range []impl.LinkIn{inOf(expect, ""), inOf(expect, "part", expect+2, expect+7), inOf(expect, "", expect+1, expect+2)} {
			for by := -9; by <= 17; by++ {
				seq := expect + by
				if !between(seq, 0, impl.MaxSeq-1) {
					continue
				}
				want := impl.CodeOK
				if by < 0 || by >= impl.Window || slices.ContainsFunc(in.Held, func(p impl.Packet) bool { return p.Seq == seq }) {
					want = impl.CodeOld
				}
				for _, last := range []bool{false, true} {
					if _, _, code := checkTake(t, in, data(seq, "new", last)); code != want {
						t.Errorf("%d with %d expected: code %d; want %d", seq, expect, code, want)
					}
				}
			}
		}
	}
}

func TestTakeAtTheLastNumber(t *testing.T) {
	in, messages, code := checkTake(t, inOf(impl.MaxSeq-1, "a"), data(impl.MaxSeq-1, "b", true))
	if code != impl.CodeOK || in.Expect != impl.MaxSeq || joined(messages) != "ab" {
		t.Errorf("%v, %s, %d", in, messages, code)
	}
	if _, _, code := checkTake(t, in, data(impl.MaxSeq-1, "b", true)); code != impl.CodeOld {
		t.Errorf("code %d", code)
	}
	if _, _, code := checkTake(t, in, data(impl.MaxSeq, "c", true)); code != impl.CodeBad {
		t.Errorf("code %d", code)
	}
	in, messages, _ = checkTake(t, inOf(impl.MaxSeq-3, "", impl.MaxSeq-2, impl.MaxSeq-1), data(impl.MaxSeq-3, "x", true))
	if in.Expect != impl.MaxSeq || len(in.Held) != 0 || len(messages) != 2 {
		t.Errorf("%v, %s", in, messages)
	}
}

func TestTakeOfWrongPackets(t *testing.T) {
	for _, in := range []impl.LinkIn{inOf(4, "part", 6), inOf(0, ""), {}, {Epoch: 2, Expect: 3}} {
		for _, p := range []impl.Packet{{}, ack(1, in.Expect, 0), reset(1, 0), ping(1), ack(in.Epoch, in.Expect, 0), ping(in.Epoch),
			data(in.Expect, "", false), data(in.Expect, strings.Repeat("x", impl.MaxPayload+1), true), data(-1, "x", true), data(math.MinInt, "x", true),
			data(impl.MaxSeq, "x", true), data(math.MaxInt, "x", true), {Kind: impl.PackData, Epoch: in.Epoch, Seq: in.Expect, Count: 1, Data: []byte("x")},
			{Kind: impl.PackData, Epoch: in.Epoch + 1, Seq: in.Expect, Data: []byte("x")}, {Kind: impl.PackData, Epoch: in.Epoch - 1, Seq: in.Expect, Data: []byte("x")},
			{Kind: impl.PackData, Seq: in.Expect, Data: []byte("x")}, {Kind: 5, Epoch: in.Epoch, Seq: in.Expect, Data: []byte("x")}} {
			if _, _, code := checkTake(t, in, p); code != impl.CodeBad {
				t.Errorf("%v: code %d", p, code)
			}
		}
	}
}

func TestTakeWithLongPart(t *testing.T) {
	for _, size := range []int{impl.MaxBuffer - 2, impl.MaxBuffer - 1, impl.MaxBuffer} {
		part := string(lettered(size))
		for _, more := range []int{1, 2, 3, impl.MaxPayload} {
			for _, last := range []bool{false, true} {
				want := impl.CodeOK
				if size+more > impl.MaxBuffer {
					want = impl.CodeCorrupt
				}
				next, messages, code := checkTake(t, inOf(0, part), data(0, strings.Repeat("m", more), last))
				if code != want || code == impl.CodeOK && (last != (len(messages) == 1) || last != (len(next.Part) == 0)) {
					t.Errorf("%d and %d bytes: %d messages, code %d", size, more, len(messages), code)
				}
			}
		}
		// Held behind a gap, it does no harm yet.
		if _, _, code := checkTake(t, inOf(0, part), data(1, strings.Repeat("m", impl.MaxPayload), true)); code != impl.CodeOK {
			t.Errorf("%d bytes: code %d", size, code)
		}
	}
}

// The part gets too long at a packet that was held, or behind a message that has become whole.
func TestTakeWithPartThatGetsTooLong(t *testing.T) {
	long := string(lettered(impl.MaxBuffer - 10))
	for held, want := range map[string]int{"12345678": impl.CodeOK, "123456789": impl.CodeOK, "1234567890": impl.CodeCorrupt} {
		in := inOf(7, long)
		in.Held = []impl.Packet{data(8, held, true), data(9, "z", true)}
		next, messages, code := checkTake(t, in, data(7, "x", false))
		if code != want || (len(messages) == 2) != (want == impl.CodeOK) {
			t.Errorf("%s: %d messages, code %d", held, len(messages), code)
		}
		if code == impl.CodeCorrupt && (next.Expect != 7 || len(next.Held) != 2 || string(next.Part) != long) {
			t.Errorf("%s: the end is not as it was", held)
		}
	}
	in := inOf(7, long)
	in.Held = []impl.Packet{data(8, "z", true)}
	if _, messages, code := checkTake(t, in, data(7, "1234567890", true)); code != impl.CodeOK || len(messages) != 2 {
		t.Errorf("%d messages, code %d", len(messages), code)
	}
	if _, messages, code := checkTake(t, in, data(7, "12345678901", true)); code != impl.CodeCorrupt || len(messages) != 0 {
		t.Errorf("%d messages, code %d", len(messages), code)
	}
}

// A message that has become whole before makes room for no more than one message.
func TestTakeWithPartThatGrowsTooLong(t *testing.T) {
	piece := string(lettered(impl.MaxPayload))
	for _, gaps := range []int{1, 2, 7} {
		in := impl.LinkIn{Epoch: 1}
		in, messages, _ := checkTake(t, in, data(0, piece, true))
		if len(messages) != 1 || string(messages[0]) != piece {
			t.Fatalf("%s", messages)
		}
		const last = impl.MaxBuffer / impl.MaxPayload
		for seq := 1; seq <= last; seq++ {
			in, _, _ = checkTake(t, in, data(seq, piece, false))
		}
		if in.Expect != last+1 || len(in.Part) != impl.MaxBuffer {
			t.Fatalf("%d bytes up to %d", len(in.Part), in.Expect)
		}
		for by := gaps; by > 0; by-- {
			in, _, _ = checkTake(t, in, data(last+1+by, "held", true))
		}
		for _, content := range []string{"x", piece} {
			for _, isLast := range []bool{false, true} {
				next, messages, code := checkTake(t, in, data(last+1, content, isLast))
				if code != impl.CodeCorrupt || len(messages) != 0 || !sameIn(next, in) {
					t.Errorf("%d messages, code %d", len(messages), code)
				}
			}
		}
	}
}

// P9: every set of held packets, with every way to end messages, and each packet around the window.
func TestTakeWithEverySetHeld(t *testing.T) {
	const expect = 50
	for set := 0; set < 1<<impl.Window; set += 2 {
		for _, lasts := range []int{0, 0xff, 0x55, 0xaa, 0x92, 0x80, set} {
			in := impl.LinkIn{Epoch: 1, Expect: expect, Part: []byte("part")}
			for by := range impl.Window {
				if set>>by&1 == 1 {
					in.Held = append(in.Held, data(expect+by, string(rune('a'+by)), lasts>>by&1 == 1))
				}
			}
			for seq := expect - 2; seq < expect+impl.Window+2; seq++ {
				checkTake(t, in, data(seq, "N", false))
				checkTake(t, in, data(seq, "N", true))
			}
		}
	}
}

// ordersOf calls do with every order of the numbers below n.
func ordersOf(n int, do func(order []int)) {
	order := make([]int, n)
	for i := range order {
		order[i] = i
	}
	var fix func(from int)
	fix = func(from int) {
		if from == n {
			do(order)
			return
		}
		for i := from; i < n; i++ {
			order[from], order[i] = order[i], order[from]
			fix(from + 1)
			order[from], order[i] = order[i], order[from]
		}
	}
	fix(0)
}

// pushedWith is an end with messages of so many bytes, and these messages.
func pushedWith(t *testing.T, o impl.LinkOut, sizes ...int) (impl.LinkOut, [][]byte) {
	t.Helper()
	var messages [][]byte
	for i, size := range sizes {
		message := lettered(size)
		message[0] = byte(200 + i)
		next, code := checkPush(t, o, message)
		if code != impl.CodeOK {
			t.Fatalf("message %d: code %d", i, code)
		}
		o = next
		messages = append(messages, message)
	}
	return o, messages
}

// P9: every order of as many packets as the window has, and of messages of one packet and of several.
func TestTakeInEveryOrder(t *testing.T) {
	for _, sizes := range [][]int{{1, 2, 3, 4, 5, 6}, {550}, {150, 150, 150}, {100, 300, 200}, {1, 301, 1}, {600}, {101, 1, 1, 101}, {250, 250}} {
		for _, next := range []int{0, 7, impl.MaxSeq - 6} {
			o, want := pushedWith(t, impl.LinkOut{Epoch: 1, Next: next}, sizes...)
			if len(o.Waiting) != 6 {
				t.Fatalf("%d packets", len(o.Waiting))
			}
			ordersOf(6, func(order []int) {
				in := impl.LinkIn{Epoch: 1, Expect: next}
				var got [][]byte
				for i, at := range order {
					after, messages, code := impl.LinkTake(in, o.Waiting[at].Packet)
					if code != impl.CodeOK || !impl.ValidIn(after) {
						t.Fatalf("%v of %v: code %d", order, sizes, code)
					}
					in, got = after, append(got, messages...)
					again, none, code := impl.LinkTake(in, o.Waiting[order[i/2]].Packet)
					if code != impl.CodeOld || len(none) != 0 || !sameIn(again, in) {
						t.Fatalf("%v of %v, again: code %d", order, sizes, code)
					}
				}
				if !sameLists(got, want) || in.Expect != o.Next || len(in.Held) != 0 || len(in.Part) != 0 {
					t.Fatalf("%v of %v: %s", order, sizes, short(got))
				}
			})
		}
	}
}

// P9: all packets of an end are thrown at the other until it has them all, also those behind its window.
func TestTakeOfThrownPackets(t *testing.T) {
	for seed := range uint32(300) {
		below := diceOf(seed)
		var sizes []int
		for range 1 + below(8) {
			sizes = append(sizes, 1+below([]int{20, 250, 900}[below(3)]))
		}
		start := impl.LinkOut{Epoch: 1 + below(impl.MaxEpoch), Next: []int{0, 3, 1 << 35, impl.MaxSeq - 100}[below(4)]}
		o, want := pushedWith(t, start, sizes...)
		in := impl.LinkIn{Epoch: start.Epoch, Expect: start.Next}
		var got [][]byte
		leftOut := below(len(o.Waiting) + 1)
		for throws := 0; in.Expect < o.Next; throws++ {
			at := below(len(o.Waiting))
			if at == leftOut && throws < 200 {
				continue
			}
			var messages [][]byte
			in, messages, _ = checkTake(t, in, o.Waiting[at].Packet)
			got = append(got, messages...)
			if len(got) > len(want) || !sameLists(got, want[:len(got)]) {
				t.Fatalf("seed %d: %s", seed, short(got))
			}
			if throws > 100000 {
				t.Fatalf("seed %d: no end", seed)
			}
		}
		if !sameLists(got, want) || len(in.Held) != 0 || len(in.Part) != 0 {
			t.Errorf("seed %d: %d of %d messages", seed, len(got), len(want))
		}
	}
}

// P9: the greatest messages, all packets in order and all from behind.
func TestTakeOfGreatMessages(t *testing.T) {
	o, want := pushedWith(t, impl.LinkOut{Epoch: 1, Next: 11}, impl.MaxBuffer, 1, 9799, 100)
	turned := slices.Clone(o.Waiting)
	slices.Reverse(turned)
	for _, waiting := range [][]impl.Sent{o.Waiting, turned} {
		in := impl.LinkIn{Epoch: 1, Expect: 11}
		var got [][]byte
		for range len(waiting) {
			for _, w := range waiting {
				var messages [][]byte
				in, messages, _ = impl.LinkTake(in, w.Packet)
				got = append(got, messages...)
			}
			if in.Expect == o.Next {
				break
			}
		}
		if !sameLists(got, want) {
			t.Errorf("%d of %d messages", len(got), len(want))
		}
	}
}

// P8 and P9: two ends with a network between them that loses, doubles, reorders and spoils.
func TestLinkOverNetwork(t *testing.T) {
	for seed := range uint32(40) {
		below := diceOf(seed + 1000)
		o := impl.LinkOut{Epoch: 5, Next: below(20)}
		in := impl.LinkIn{Epoch: 5, Expect: o.Next}
		var toIn [][]byte
		var toOut []int
		var want, got [][]byte
		for round := 0; round < 400 || len(o.Waiting) > 0; round++ {
			quiet := round >= 400
			if len(want) < 25 && below(3) == 0 {
				message := lettered(1 + below([]int{30, 1500}[below(2)]))
				if next, code := checkPush(t, o, message); code == impl.CodeOK {
					o, want = next, append(want, message)
				}
			}
			next, datagrams, _ := checkTick(t, o)
			o, toIn = next, append(toIn, datagrams...)
			for len(toIn) > 0 && (quiet || below(3) > 0) {
				at := below(len(toIn))
				b := bytes.Clone(toIn[at])
				if quiet || below(4) > 0 {
					toIn = slices.Delete(toIn, at, at+1)
				}
				if !quiet && below(4) == 0 {
					bit := below(8 * len(b))
					b[bit/8] ^= 1 << (bit % 8)
				}
				p, code := impl.DecodePacket(b)
				if code != impl.CodeOK || !quiet && below(4) == 0 {
					continue
				}
				var messages [][]byte
				in, messages, _ = checkTake(t, in, p)
				got = append(got, messages...)
				toOut = append(toOut, in.Expect)
			}
			for len(toOut) > 0 && (quiet || below(3) > 0) {
				at := below(len(toOut))
				if quiet || below(2) == 0 {
					o, _ = checkAcked(t, o, toOut[at])
				}
				toOut = slices.Delete(toOut, at, at+1)
			}
			if len(got) > len(want) || !sameLists(got, want[:len(got)]) || round > 5000 {
				t.Fatalf("seed %d, round %d: %d of %d messages", seed, round, len(got), len(want))
			}
		}
		if !sameLists(got, want) || len(want) < 5 {
			t.Errorf("seed %d: %d of %d messages", seed, len(got), len(want))
		}
	}
}

// thrownOut is an end that is valid, but for some wrong number now and then.
func thrownOut(below func(int) int) impl.LinkOut {
	times := make([]int, below(12))
	now := below(9)
	for i := range times {
		times[i] = below(now+2) - 1
	}
	o := outOf(1+below(2), len(times)+below(3), now, times...)
	if n := len(times); n > 0 && below(4) == 0 {
		w := &o.Waiting[below(n)]
		w.At += below(3) - 1
		w.Packet.Seq += below(3) / 2
		w.Packet.Epoch += below(5) / 4
		w.Packet.Kind += below(5) / 4
	}
	if below(10) == 0 {
		o.Next += below(3) - 1
		o.Now += below(3) - 1
	}
	return o
}

// thrownIn is an end that is valid, but for some wrong number now and then.
func thrownIn(below func(int) int) impl.LinkIn {
	in := impl.LinkIn{Epoch: 1, Expect: below(6), Part: lettered(below(4))}
	for by := 1; by < impl.Window; by++ {
		if below(2) == 0 {
			in.Held = append(in.Held, data(in.Expect+by, strings.Repeat(strconv.Itoa(by), 1+below(3)), below(2) == 0))
		}
	}
	if n := len(in.Held); n > 0 && below(4) == 0 {
		p := &in.Held[below(n)]
		p.Seq += below(3) - 1
		p.Epoch += below(5) / 4
		p.Kind += below(5) / 4
	}
	if below(10) == 0 {
		in.Expect += below(3) - 1
		in.Epoch = below(3) - 1
	}
	return in
}

func TestThrownEnds(t *testing.T) {
	below := diceOf(77)
	valid := 0
	for range 30000 {
		o := thrownOut(below)
		if impl.ValidOut(o) != validOutByHand(o) {
			t.Fatalf("ValidOut(%s) = %v", short(o), impl.ValidOut(o))
		}
		checkPush(t, o, lettered(below(402)))
		checkTick(t, o)
		checkAcked(t, o, below(16)-1)
		in := thrownIn(below)
		if impl.ValidIn(in) != validInByHand(in) {
			t.Fatalf("ValidIn(%s) = %v", short(in), impl.ValidIn(in))
		}
		checkTake(t, in, data(in.Expect+below(11)-2, "new", below(2) == 0))
		if impl.ValidOut(o) && impl.ValidIn(in) {
			valid++
		}
	}
	if valid < 10000 || valid > 29000 {
		t.Errorf("%d are valid", valid)
	}
}

// listsOfOut are all lists of bytes in an end.
func listsOfOut(o impl.LinkOut) [][]byte {
	var lists [][]byte
	for _, w := range o.Waiting {
		lists = append(lists, w.Packet.Data)
	}
	return lists
}

// listsOfIn are all lists of bytes in an end.
func listsOfIn(in impl.LinkIn) [][]byte {
	lists := [][]byte{in.Part}
	for _, p := range in.Held {
		lists = append(lists, p.Data)
	}
	return lists
}

// checkOutApart writes into every list of an answered end, then into the others: no two share memory, and the given end
// stays as it is.
func checkOutApart(t *testing.T, answer, given impl.LinkOut, others ...[]byte) {
	t.Helper()
	was := copyOut(given)
	checkApart(t, slices.Concat(listsOfOut(answer), others), listsOfOut(given))
	for i := range answer.Waiting[:cap(answer.Waiting)] {
		answer.Waiting[:cap(answer.Waiting)][i] = impl.Sent{At: 1000}
	}
	if !sameOut(given, was) {
		t.Error("the answered end shares its places with the given one")
	}
}

func checkInApart(t *testing.T, answer, given impl.LinkIn, others, arguments [][]byte) {
	t.Helper()
	was := copyIn(given)
	checkApart(t, slices.Concat(listsOfIn(answer), others), slices.Concat(listsOfIn(given), arguments))
	for i := range answer.Held[:cap(answer.Held)] {
		answer.Held[:cap(answer.Held)][i] = impl.Packet{Seq: 1000}
	}
	if !sameIn(given, was) {
		t.Error("the answered end shares its places with the given one")
	}
}

func TestPacketsAreNewMemory(t *testing.T) {
	p := data(3, "abc", true)
	checkApart(t, [][]byte{impl.EncodePacket(p)}, [][]byte{p.Data})
	b := packetByHand(p)
	got, _ := impl.DecodePacket(b)
	checkApart(t, [][]byte{got.Data}, [][]byte{b})
}

// Every call has an end of its own, as a check writes into what it is given; there is room behind the end's packets, so
// that an answer could come to stand there.
func TestOutsAreNewMemory(t *testing.T) {
	for _, times := range [][]int{nil, {-1}, {3, 3, -1, 0, 8}, slices.Repeat([]int{-1}, 20), slices.Repeat([]int{2}, impl.MaxWaiting)} {
		for _, next := range []int{400, impl.MaxSeq - 1, impl.MaxSeq} {
			for _, now := range []int{9, impl.MaxNow} {
				fresh := func() impl.LinkOut {
					o := outOf(1, next, now, times...)
					o.Waiting = append(make([]impl.Sent, 0, 2*impl.MaxWaiting), o.Waiting...)
					return o
				}
				for _, size := range []int{1, 50, 350} {
					o, message := fresh(), lettered(size)
					pushed, code := impl.LinkPush(o, message)
					if code == impl.CodeBad {
						t.Fatal(code)
					}
					checkOutApart(t, pushed, o, message)
				}
				o := fresh()
				ticked, datagrams, _ := impl.LinkTick(o)
				checkOutApart(t, ticked, o, datagrams...)
				for _, seq := range []int{0, next - len(times), next - len(times)/2, next} {
					o := fresh()
					acked, _ := impl.LinkAcked(o, seq)
					checkOutApart(t, acked, o)
				}
			}
		}
	}
}

func TestInsAreNewMemory(t *testing.T) {
	for _, in := range []impl.LinkIn{inOf(4, ""), inOf(4, "part"), inOf(4, "part", 5, 6, 7), inOf(4, "", 5, 7, 11), inOf(4, string(lettered(impl.MaxBuffer)), 5, 9)} {
		for seq := 3; seq <= 12; seq++ {
			for _, last := range []bool{false, true} {
				given, p := copyIn(in), data(seq, "new", last)
				given.Part = withRoom(given.Part, 300)
				given.Held = append(make([]impl.Packet, 0, 20), given.Held...)
				next, messages, code := impl.LinkTake(given, p)
				if code == impl.CodeBad {
					t.Fatal(code)
				}
				checkInApart(t, next, given, messages, [][]byte{p.Data})
			}
		}
	}
}

func TestLinkLeavesArgumentsAsTheyWere(t *testing.T) {
	for _, size := range []int{1, 100, 350, impl.MaxBuffer} {
		o := outOf(1, 60, 9, 3, 5, 6, -1, -1, 8, 2, 1, -1, 0)
		for i := range o.Waiting {
			o.Waiting[i].Packet.Data = withRoom(o.Waiting[i].Packet.Data, 9)
		}
		in := inOf(4, "part", 5, 6, 9)
		in.Part = withRoom(in.Part, 9)
		for i := range in.Held {
			in.Held[i].Data = withRoom(in.Held[i].Data, 9)
		}
		message := withRoom(lettered(size), 9)
		p := data(4, "abc", false)
		p.Data = withRoom(p.Data, 9)
		b := withRoom(packetByHand(p), 9)
		oWas, inWas, bWas, pWas := copyOut(o), copyIn(in), bytes.Clone(b), data(4, "abc", false)
		impl.EncodePacket(p)
		impl.DecodePacket(b)
		impl.ValidOut(o)
		impl.ValidIn(in)
		impl.LinkPush(o, message)
		impl.LinkTick(o)
		impl.LinkAcked(o, 55)
		impl.LinkTake(in, p)
		if !sameOut(o, oWas) || !sameIn(in, inWas) || !bytes.Equal(b, bWas) || !samePacket(p, pWas) || !bytes.Equal(message, lettered(size)) {
			t.Errorf("%d bytes: an argument was written", size)
		}
		for _, list := range slices.Concat(listsOfOut(o), listsOfIn(in), [][]byte{message, p.Data, b}) {
			if room := list[len(list) : len(list)+9]; !bytes.Equal(room, bytes.Repeat([]byte{0xaa}, 9)) {
				t.Errorf("%d bytes: bytes behind an argument were written", size)
			}
		}
	}
}

func TestLinkConstants(t *testing.T) {
	if impl.PackData != 1 || impl.PackAck != 2 || impl.PackReset != 3 || impl.PackPing != 4 {
		t.Error("the kinds of packets")
	}
	if impl.MaxPayload != 100 || impl.MaxEpoch != 1000000000 || impl.MaxSeq != 1000000000000 || impl.MaxWaiting != 300 {
		t.Error("the limits of packets")
	}
	if impl.MaxNow != 1000000000 || impl.Window != 8 || impl.Timeout != 4 {
		t.Error("the limits of a link")
	}
}
