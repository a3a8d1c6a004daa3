package tests

import (
	"bytes"
	"math"
	"reflect"
	"slices"
	"strconv"
	"strings"
	"testing"

	"loop.example/s01316/impl"
)

// oneField: a table of one row of it is one message of one packet.
func oneField() []impl.Field {
	return []impl.Field{{Name: []byte("n"), Kind: impl.KindInt, Width: 1}}
}

func rowOf(n int) impl.Table { return tableOf(1, number(n)) }

func rowsOf(from, n int) []impl.Table {
	var tables []impl.Table
	for i := range n {
		tables = append(tables, rowOf(from+i))
	}
	return tables
}

// rowMessage is the message of rowOf(n), whatever its number.
func rowMessage(n int) []byte {
	return messageByHand(batchMessage(openOf(oneField(), 0, nil), rowOf(n)))
}

// senderOf is the sender of the epoch 1 with so many tables, of which so many are pushed and acknowledged by the link.
func senderOf(base, tables, pushed int) impl.Sender {
	return impl.Sender{Fields: oneField(), Epoch: 1, Base: base, Tables: rowsOf(1, tables), Pushed: pushed,
		Out: outOf(1, 5, 0), Stream: openOf(oneField(), base+pushed, nil)}
}

// receiverOf is the receiver of the epoch 1 that expects the packet 5, with an open stream.
func receiverOf(count, ready, next int) impl.Receiver {
	return impl.Receiver{Epoch: 1, Count: count, Live: true, In: inOf(5, ""), Stream: openOf(oneField(), next, nil), Ready: rowsOf(50, ready)}
}

func copyTables(tables []impl.Table) []impl.Table {
	tables = slices.Clone(tables)
	for i := range tables {
		tables[i].Cells = copyCells(tables[i].Cells)
	}
	return tables
}

func copySender(v impl.Sender) impl.Sender {
	v.Fields = copyStream(impl.Stream{Fields: v.Fields}).Fields
	v.Tables, v.Out, v.Stream = copyTables(v.Tables), copyOut(v.Out), copyStream(v.Stream)
	return v
}

func copyReceiver(r impl.Receiver) impl.Receiver {
	r.In, r.Stream, r.Ready = copyIn(r.In), copyStream(r.Stream), copyTables(r.Ready)
	return r
}

func sameSender(a, b impl.Sender) bool {
	return a.Epoch == b.Epoch && a.Base == b.Base && a.Pushed == b.Pushed && sameFields(a.Fields, b.Fields) &&
		sameTables(a.Tables, b.Tables) && sameOut(a.Out, b.Out) && sameStream(a.Stream, b.Stream)
}

func sameReceiver(a, b impl.Receiver) bool {
	return a.Epoch == b.Epoch && a.Count == b.Count && a.Live == b.Live && a.Errors == b.Errors &&
		sameTables(a.Ready, b.Ready) && sameIn(a.In, b.In) && sameStream(a.Stream, b.Stream)
}

// The functions by hand follow the document's words step by step; of the program they need those of chapters 2 to 5 that
// tell what is valid and read bytes.

func validTablesByHand(fields []impl.Field, tables []impl.Table) bool {
	return !slices.ContainsFunc(tables, func(table impl.Table) bool { return !impl.ValidTable(fields, table) })
}

func validSenderByHand(v impl.Sender) bool {
	return impl.ValidFields(v.Fields) && between(v.Epoch, 1, 1e9) && v.Out.Epoch == v.Epoch && validOutByHand(v.Out) &&
		between(v.Base, 0, 1e9) && v.Base+len(v.Tables) <= 1e9 && len(v.Tables) <= 20 && validTablesByHand(v.Fields, v.Tables) &&
		between(v.Pushed, 0, len(v.Tables)) &&
		impl.ValidStream(v.Stream) && v.Stream.Open && sameFields(v.Stream.Fields, v.Fields) && v.Stream.Next == v.Base+v.Pushed
}

func validReceiverByHand(r impl.Receiver) bool {
	if !between(r.Epoch, 0, 1e9) || !between(r.Count, 0, 1e9) || !between(r.Errors, 0, 1e9) {
		return false
	}
	if !r.Live {
		return sameReceiver(r, impl.Receiver{Epoch: r.Epoch, Count: r.Count, Errors: r.Errors})
	}
	if r.Epoch < 1 || r.In.Epoch != r.Epoch || !validInByHand(r.In) || !impl.ValidStream(r.Stream) || len(r.Ready) > 20 {
		return false
	}
	if !r.Stream.Open {
		return len(r.Ready) == 0
	}
	have := r.Count + len(r.Ready)
	return validTablesByHand(r.Stream.Fields, r.Ready) && have >= r.Stream.Next && (len(r.Ready) == 0 || have == r.Stream.Next)
}

func beginByHand(v impl.Sender) impl.Sender {
	v = copySender(v)
	v.Pushed = 0
	v.Out, _ = pushByHand(impl.LinkOut{Epoch: v.Epoch}, headerByHand(v.Fields, v.Base))
	v.Stream = openOf(v.Fields, v.Base, nil)
	return v
}

func openByHand(fields []impl.Field) (impl.Sender, int) {
	if !impl.ValidFields(fields) {
		return impl.Sender{}, impl.CodeBad
	}
	return beginByHand(impl.Sender{Fields: fields, Epoch: 1}), impl.CodeOK
}

func sendByHand(v impl.Sender, table impl.Table) (impl.Sender, int) {
	next := copySender(v)
	switch {
	case !validSenderByHand(v) || !impl.ValidTable(v.Fields, table):
		return impl.Sender{}, impl.CodeBad
	case len(v.Tables) == 20:
		return next, impl.CodeFull
	case v.Base+len(v.Tables) == 1e9:
		return next, impl.CodeEnd
	}
	next.Tables = append(next.Tables, table)
	return next, impl.CodeOK
}

func senderTickByHand(v impl.Sender) (impl.Sender, [][]byte, int) {
	if !validSenderByHand(v) {
		return impl.Sender{}, nil, impl.CodeBad
	}
	next := copySender(v)
	code := impl.CodeOK
	for next.Pushed < len(next.Tables) && len(next.Out.Waiting) < 8 {
		var messages [][]byte
		next.Stream, messages = writeByHand(next.Stream, next.Tables[next.Pushed])
		for _, message := range messages {
			if next.Out, code = pushByHand(next.Out, message); code != impl.CodeOK {
				return copySender(v), nil, code
			}
		}
		next.Pushed++
	}
	var datagrams [][]byte
	if next.Out, datagrams, code = tickByHand(next.Out); code != impl.CodeOK {
		return copySender(v), nil, code
	}
	if len(next.Out.Waiting) == 0 && len(next.Tables) > 0 && next.Out.Now%4 == 0 {
		datagrams = append(datagrams, packetByHand(ping(v.Epoch)))
	}
	return next, datagrams, impl.CodeOK
}

func senderTakeByHand(v impl.Sender, b []byte) (impl.Sender, int) {
	same := copySender(v)
	p, code := impl.DecodePacket(b)
	switch {
	case !validSenderByHand(v):
		return same, impl.CodeBad
	case code != impl.CodeOK:
		return same, impl.CodeCorrupt
	case p.Kind != 2 && p.Kind != 3 || p.Epoch != v.Epoch:
		return same, impl.CodeOld
	case p.Count > v.Base+len(v.Tables) || p.Kind == 2 && p.Seq > v.Out.Next:
		return same, impl.CodeBad
	}
	next := copySender(v)
	if p.Kind == 2 {
		next.Out, _ = ackedByHand(v.Out, p.Seq)
	}
	k := p.Count - v.Base
	if k > 0 {
		next.Base = p.Count
		next.Tables = next.Tables[k:]
		if k <= v.Pushed {
			next.Pushed -= k
		}
	}
	if p.Kind == 2 && k <= v.Pushed {
		return next, impl.CodeOK
	}
	if v.Epoch == 1e9 {
		return same, impl.CodeEnd
	}
	next.Epoch++
	return beginByHand(next), impl.CodeReset
}

func crashSenderByHand(v impl.Sender) (impl.Sender, int) {
	if !validSenderByHand(v) {
		return impl.Sender{}, impl.CodeBad
	}
	if v.Epoch == 1e9 {
		return copySender(v), impl.CodeEnd
	}
	return beginByHand(impl.Sender{Fields: v.Fields, Base: v.Base, Tables: v.Tables, Epoch: v.Epoch + 1}), impl.CodeOK
}

func replyByHand(r impl.Receiver) []byte { return packetByHand(ack(r.Epoch, r.In.Expect, r.Count)) }

func receiverTakeByHand(r impl.Receiver, b []byte) (impl.Receiver, []byte, int) {
	if !validReceiverByHand(r) {
		return impl.Receiver{}, nil, impl.CodeBad
	}
	same, wrong := copyReceiver(r), copyReceiver(r)
	if wrong.Errors != 1e9 {
		wrong.Errors++
	}
	p, code := impl.DecodePacket(b)
	if code != impl.CodeOK {
		return wrong, nil, impl.CodeCorrupt
	}
	if p.Kind != 1 && p.Kind != 4 || p.Epoch < r.Epoch {
		return same, nil, impl.CodeOld
	}
	next := copyReceiver(r)
	if p.Epoch > r.Epoch {
		next.Epoch, next.Live, next.In, next.Stream, next.Ready = p.Epoch, true, impl.LinkIn{Epoch: p.Epoch}, impl.Stream{}, nil
	}
	if !next.Live {
		return next, packetByHand(reset(next.Epoch, next.Count)), impl.CodeReset
	}
	if p.Kind == 4 {
		return next, replyByHand(next), impl.CodeOK
	}
	in, messages, code := takeByHand(next.In, p)
	if code == impl.CodeOld {
		return next, replyByHand(next), impl.CodeOld
	}
	if code == impl.CodeCorrupt {
		return wrong, nil, impl.CodeCorrupt
	}
	next.In = in
	for _, message := range messages {
		before := next.Stream.Next
		stream, tables, code := impl.ReadMessage(next.Stream, message)
		if code != impl.CodeOK || message[2] == impl.MsgHeader && stream.Next > next.Count {
			return wrong, nil, impl.CodeCorrupt
		}
		next.Stream = stream
		if len(tables) == 1 && before >= next.Count+len(next.Ready) {
			next.Ready = append(next.Ready, tables[0])
		}
		if len(next.Ready) > 20 {
			return same, nil, impl.CodeFull
		}
	}
	return next, replyByHand(next), impl.CodeOK
}

func pollByHand(r impl.Receiver) (impl.Receiver, []impl.Table, int) {
	if !validReceiverByHand(r) {
		return impl.Receiver{}, nil, impl.CodeBad
	}
	next := copyReceiver(r)
	next.Ready = nil
	next.Count = r.Count + len(r.Ready)
	return next, r.Ready, impl.CodeOK
}

func crashReceiverByHand(r impl.Receiver) (impl.Receiver, int) {
	if !validReceiverByHand(r) {
		return impl.Receiver{}, impl.CodeBad
	}
	return impl.Receiver{Epoch: r.Epoch, Count: r.Count}, impl.CodeOK
}

// stretch is the memory of a list, with the room behind it.
type stretch struct{ from, to uintptr }

func stretchesOf(v reflect.Value, found []stretch) []stretch {
	switch v.Kind() {
	case reflect.Struct:
		for i := range v.NumField() {
			found = stretchesOf(v.Field(i), found)
		}
	case reflect.Slice:
		if v.Cap() > 0 {
			found = append(found, stretch{v.Pointer(), v.Pointer() + uintptr(v.Cap())*v.Type().Elem().Size()})
		}
		if v.Type().Elem().Kind() != reflect.Uint8 {
			for i := range v.Len() {
				found = stretchesOf(v.Index(i), found)
			}
		}
	}
	return found
}

// checkNoneShared: of all lists in what a call was given and has answered, no two share memory.
func checkNoneShared(t *testing.T, what string, values ...any) {
	t.Helper()
	var all []stretch
	for _, v := range values {
		all = stretchesOf(reflect.ValueOf(v), all)
	}
	slices.SortFunc(all, func(a, b stretch) int {
		if a.from < b.from {
			return -1
		}
		return 1
	})
	for i := 1; i < len(all); i++ {
		if all[i].from < all[i-1].to {
			t.Fatalf("%s: two lists share memory", what)
		}
	}
}

// The checks hold an answer against the one by hand, look after what every answer must keep (it is valid, new memory, and
// what was given is as it was), and hand it on.

func checkSenderAnswer(t *testing.T, what string, given, was, got, want impl.Sender, code, wantCode int, others ...any) {
	t.Helper()
	if code != wantCode || !sameSender(got, want) {
		t.Fatalf("%s of %s = %s, %d; want %s, %d", what, short(given), short(got), code, short(want), wantCode)
	}
	if code != impl.CodeBad && !impl.ValidSender(got) {
		t.Fatalf("%s of %s: %s is not valid", what, short(given), short(got))
	}
	if !sameSender(given, was) {
		t.Fatalf("%s has written into the sender", what)
	}
	checkNoneShared(t, what, append(others, given, got)...)
}

func checkReceiverAnswer(t *testing.T, what string, given, was, got, want impl.Receiver, code, wantCode int, others ...any) {
	t.Helper()
	if code != wantCode || !sameReceiver(got, want) {
		t.Fatalf("%s of %s = %s, %d; want %s, %d", what, short(given), short(got), code, short(want), wantCode)
	}
	if code != impl.CodeBad && !impl.ValidReceiver(got) {
		t.Fatalf("%s of %s: %s is not valid", what, short(given), short(got))
	}
	if !sameReceiver(given, was) {
		t.Fatalf("%s has written into the receiver", what)
	}
	checkNoneShared(t, what, append(others, given, got)...)
}

func checkOpen(t *testing.T, fields []impl.Field) (impl.Sender, int) {
	t.Helper()
	was := copyStream(impl.Stream{Fields: fields}).Fields
	want, wantCode := openByHand(fields)
	got, code := impl.OpenSender(fields)
	checkSenderAnswer(t, "OpenSender", impl.Sender{}, impl.Sender{}, got, want, code, wantCode, fields)
	if !sameFields(fields, was) {
		t.Fatal("OpenSender has written into the fields")
	}
	return got, code
}

func checkSend(t *testing.T, v impl.Sender, table impl.Table) (impl.Sender, int) {
	t.Helper()
	was, tableWas := copySender(v), copyTables([]impl.Table{table})
	want, wantCode := sendByHand(v, table)
	got, code := impl.Send(v, table)
	checkSenderAnswer(t, "Send", v, was, got, want, code, wantCode, table)
	if !sameTables([]impl.Table{table}, tableWas) {
		t.Fatal("Send has written into the table")
	}
	return got, code
}

func checkSenderTick(t *testing.T, v impl.Sender) (impl.Sender, [][]byte, int) {
	t.Helper()
	was := copySender(v)
	want, wantDatagrams, wantCode := senderTickByHand(v)
	got, datagrams, code := impl.SenderTick(v)
	checkSenderAnswer(t, "SenderTick", v, was, got, want, code, wantCode, datagrams)
	if !sameLists(datagrams, wantDatagrams) {
		t.Fatalf("SenderTick of %s: %.200x; want %.200x", short(v), datagrams, wantDatagrams)
	}
	return got, datagrams, code
}

func checkSenderTake(t *testing.T, v impl.Sender, b []byte) (impl.Sender, int) {
	t.Helper()
	was, bytesWere := copySender(v), bytes.Clone(b)
	want, wantCode := senderTakeByHand(v, b)
	got, code := impl.SenderTake(v, b)
	checkSenderAnswer(t, "SenderTake", v, was, got, want, code, wantCode, b)
	if !bytes.Equal(b, bytesWere) {
		t.Fatal("SenderTake has written into the datagram")
	}
	return got, code
}

func checkCrashSender(t *testing.T, v impl.Sender) (impl.Sender, int) {
	t.Helper()
	was := copySender(v)
	want, wantCode := crashSenderByHand(v)
	got, code := impl.CrashSender(v)
	checkSenderAnswer(t, "CrashSender", v, was, got, want, code, wantCode)
	return got, code
}

func checkReceiverTake(t *testing.T, r impl.Receiver, b []byte) (impl.Receiver, []byte, int) {
	t.Helper()
	was, bytesWere := copyReceiver(r), bytes.Clone(b)
	want, wantReply, wantCode := receiverTakeByHand(r, b)
	got, reply, code := impl.ReceiverTake(r, b)
	checkReceiverAnswer(t, "ReceiverTake", r, was, got, want, code, wantCode, b, reply)
	if !bytes.Equal(reply, wantReply) {
		t.Fatalf("ReceiverTake of %s: %x; want %x", short(r), reply, wantReply)
	}
	if !bytes.Equal(b, bytesWere) {
		t.Fatal("ReceiverTake has written into the datagram")
	}
	return got, reply, code
}

func checkPoll(t *testing.T, r impl.Receiver) (impl.Receiver, []impl.Table, int) {
	t.Helper()
	was := copyReceiver(r)
	want, wantTables, wantCode := pollByHand(r)
	got, tables, code := impl.Poll(r)
	checkReceiverAnswer(t, "Poll", r, was, got, want, code, wantCode, tables)
	if !sameTables(tables, wantTables) {
		t.Fatalf("Poll of %s: %s; want %s", short(r), short(tables), short(wantTables))
	}
	return got, tables, code
}

func checkCrashReceiver(t *testing.T, r impl.Receiver) (impl.Receiver, int) {
	t.Helper()
	was := copyReceiver(r)
	want, wantCode := crashReceiverByHand(r)
	got, code := impl.CrashReceiver(r)
	checkReceiverAnswer(t, "CrashReceiver", r, was, got, want, code, wantCode)
	return got, code
}

// checkSender holds ValidSender against what is wanted; a sender that is not valid is CodeBad for all functions.
func checkSender(t *testing.T, what string, v impl.Sender, want bool) {
	t.Helper()
	if got := impl.ValidSender(v); got != want || validSenderByHand(v) != want {
		t.Fatalf("%s: ValidSender(%s) = %v; want %v", what, short(v), got, want)
	}
	_, sent := checkSend(t, v, impl.Table{})
	_, _, ticked := checkSenderTick(t, v)
	_, taken := checkSenderTake(t, v, nil)
	_, crashed := checkCrashSender(t, v)
	for _, code := range []int{sent, ticked, taken, crashed} {
		if (code != impl.CodeBad) != want {
			t.Errorf("%s: codes %d, %d, %d, %d", what, sent, ticked, taken, crashed)
		}
	}
	for _, p := range []impl.Packet{ack(1, 0, 0), reset(1, 0), ping(1)} {
		if _, code := checkSenderTake(t, v, packetByHand(p)); !want && code != impl.CodeBad {
			t.Errorf("%s: code %d", what, code)
		}
	}
}

// checkReceiver is the same for receivers.
func checkReceiver(t *testing.T, what string, r impl.Receiver, want bool) {
	t.Helper()
	if got := impl.ValidReceiver(r); got != want || validReceiverByHand(r) != want {
		t.Fatalf("%s: ValidReceiver(%s) = %v; want %v", what, short(r), got, want)
	}
	_, _, taken := checkReceiverTake(t, r, nil)
	_, _, polled := checkPoll(t, r)
	_, crashed := checkCrashReceiver(t, r)
	for _, code := range []int{taken, polled, crashed} {
		if (code != impl.CodeBad) != want {
			t.Errorf("%s: codes %d, %d, %d", what, taken, polled, crashed)
		}
	}
	for _, p := range []impl.Packet{data(0, "x", true), data(5, string(rowMessage(1)), true), ping(1), ack(1, 0, 0)} {
		if _, _, code := checkReceiverTake(t, r, packetByHand(p)); !want && code != impl.CodeBad {
			t.Errorf("%s: code %d", what, code)
		}
	}
}

// wrongFields are lists of fields that are not valid.
func wrongFields() [][]impl.Field {
	return [][]impl.Field{nil, {}, manyFields(impl.MaxFields+1, impl.KindBool), {named("x"), named("y"), named("x")}, {named("")},
		{named(strings.Repeat("x", impl.MaxName+1))}, {named("a b")}, {ofKind(impl.KindInt, 3)}, {ofKind(impl.KindText, 1)}, {ofKind(4, 0)}}
}

func TestOpenSender(t *testing.T) {
	long := manyFields(impl.MaxFields, impl.KindDict)
	for i := range long {
		long[i].Name = []byte(strings.Repeat("n", impl.MaxName-2) + strconv.Itoa(10+i))
	}
	for _, c := range []struct {
		fields  []impl.Field
		packets int
	}{{oneField(), 1}, {mixedFields(), 1}, {manyFields(2, impl.KindDict), 1}, {manyFields(impl.MaxFields, impl.KindInt), 2}, {long, 4}} {
		v, code := checkOpen(t, c.fields)
		if code != impl.CodeOK || v.Epoch != 1 || v.Base != 0 || len(v.Tables) != 0 || v.Pushed != 0 || v.Stream.Next != 0 {
			t.Errorf("%s, %d", short(v), code)
		}
		if len(v.Out.Waiting) != c.packets || v.Out.Next != c.packets || v.Out.Now != 0 || v.Out.Epoch != 1 || v.Out.Waiting[0].At != -1 {
			t.Errorf("%s; want %d packets", short(v.Out), c.packets)
		}
		checkSender(t, "opened", v, true)
	}
	for _, fields := range wrongFields() {
		if v, code := checkOpen(t, fields); code != impl.CodeBad || !sameSender(v, impl.Sender{}) {
			t.Errorf("OpenSender(%s) = %s, %d", short(fields), short(v), code)
		}
	}
}

func TestSenderFields(t *testing.T) {
	checkSender(t, "zero", impl.Sender{}, false)
	for _, fields := range wrongFields() {
		v := senderOf(0, 0, 0)
		v.Fields = fields
		v.Stream = openOf(fields, 0, nil)
		checkSender(t, "fields", v, false)
	}
}

// P10
func TestSenderEpochs(t *testing.T) {
	for _, epoch := range []int{math.MinInt, -1, 0, 1, 2, impl.MaxEpoch - 1, impl.MaxEpoch, impl.MaxEpoch + 1, math.MaxInt} {
		v := senderOf(7, 3, 2)
		v.Epoch, v.Out = epoch, outOf(epoch, 9, 4, 1, -1)
		checkSender(t, "epoch", v, between(epoch, 1, impl.MaxEpoch))
		v.Out = outOf(1, 9, 4, 1, -1)
		checkSender(t, "epoch of Out", v, epoch == 1)
		v.Epoch, v.Out = 1, outOf(epoch, 9, 4, 1, -1)
		checkSender(t, "epoch of Out", v, epoch == 1)
	}
	for _, out := range []impl.LinkOut{{}, outOf(1, 1, 4, 1, -1), outOf(1, 9, -1), outOf(1, 9, 4, 5), outOf(1, impl.MaxSeq+1, 4), outOf(1, 400, 4, make([]int, impl.MaxWaiting+1)...)} {
		v := senderOf(7, 3, 2)
		v.Out = out
		checkSender(t, "Out", v, false)
	}
}

// P10
func TestSenderBase(t *testing.T) {
	for _, tables := range []int{0, 1, 5, impl.MaxTables} {
		for pushed := range tables + 1 {
			for _, base := range []int{math.MinInt, -tables - 1, -tables, -1, 0, 1, impl.MaxIndex - tables - 1, impl.MaxIndex - tables, impl.MaxIndex - tables + 1, impl.MaxIndex + 1, math.MaxInt - pushed, math.MaxInt} {
				checkSender(t, "base", senderOf(base, tables, pushed), base >= 0 && base <= impl.MaxIndex-tables)
			}
		}
	}
}

// P10
func TestSenderTables(t *testing.T) {
	for _, n := range []int{0, 1, impl.MaxTables - 1, impl.MaxTables, impl.MaxTables + 1, 2 * impl.MaxTables} {
		checkSender(t, "number of tables", senderOf(3, n, 0), n <= impl.MaxTables)
		checkSender(t, "number of tables", senderOf(3, n, n), n <= impl.MaxTables)
	}
	for _, wrong := range []impl.Table{{Rows: 1}, {Rows: -1}, rowOf(128), tableOf(1, text("x")), tableOf(1, number(1), number(2)), tableOf(impl.MaxRows+1, make([]impl.Cell, impl.MaxRows+1)...)} {
		for at := range 3 {
			v := senderOf(3, 3, 1)
			v.Tables[at] = wrong
			checkSender(t, "table", v, false)
		}
	}
}

// P10
func TestSenderPushed(t *testing.T) {
	for _, tables := range []int{0, 1, 4, impl.MaxTables} {
		for _, pushed := range []int{math.MinInt, -2, -1, 0, 1, tables - 1, tables, tables + 1, tables + 2, math.MaxInt} {
			checkSender(t, "pushed", senderOf(6, tables, pushed), pushed >= 0 && pushed <= tables)
		}
	}
}

// P10
func TestSenderStream(t *testing.T) {
	wider, other, renamed := oneField(), oneField(), oneField()
	wider[0].Width = 2
	other[0] = impl.Field{Name: []byte("n"), Kind: impl.KindBool}
	renamed[0].Name = []byte("m")
	for what, s := range map[string]impl.Stream{
		"not open":                     {},
		"not open, but with the rest":  {Fields: oneField(), Next: 8, Dicts: make([][][]byte, 1)},
		"no dictionaries":              {Open: true, Fields: oneField(), Next: 8},
		"a dictionary for a number":    openOf(oneField(), 8, map[int][][]byte{0: texts("x")}),
		"no fields":                    {Open: true, Next: 8},
		"another width":                openOf(wider, 8, nil),
		"another kind":                 openOf(other, 8, nil),
		"another name":                 openOf(renamed, 8, nil),
		"one field more":               openOf(append(oneField(), named("more")), 8, nil),
		"Next one less":                openOf(oneField(), 7, nil),
		"Next one more":                openOf(oneField(), 9, nil),
		"Next that is Base":            openOf(oneField(), 6, nil),
		"Next that is Pushed":          openOf(oneField(), 2, nil),
		"Next behind all of Tables":    openOf(oneField(), 10, nil),
		"Next that is not valid":       openOf(oneField(), -1, nil),
		"Next greater than any number": openOf(oneField(), impl.MaxIndex+1, nil),
	} {
		v := senderOf(6, 4, 2)
		checkSender(t, "as it should be", v, true)
		v.Stream = s
		checkSender(t, what, v, false)
	}
	turned := mixedFields()
	slices.Reverse(turned)
	v, _ := checkOpen(t, mixedFields())
	v.Stream = openOf(mixedFields(), 0, map[int][][]byte{0: texts("a", "b"), 4: numbered(impl.MaxDict)})
	checkSender(t, "with dictionaries", v, true)
	v.Stream = openOf(turned, 0, nil)
	checkSender(t, "fields in another order", v, false)
	kinds := mixedFields()
	kinds[0].Kind = impl.KindText
	v.Stream = openOf(kinds, 0, nil)
	checkSender(t, "another kind of the same width", v, false)
	v.Stream = openOf(mixedFields(), 0, map[int][][]byte{0: texts("a", "a")})
	checkSender(t, "a dictionary that is not valid", v, false)
}

// P10
func TestSend(t *testing.T) {
	v, _ := checkOpen(t, oneField())
	for i := range impl.MaxTables {
		next, code := checkSend(t, v, rowOf(i))
		if code != impl.CodeOK || len(next.Tables) != i+1 || next.Tables[i].Cells[0].N != i || next.Pushed != 0 {
			t.Fatalf("table %d: %s, %d", i, short(next), code)
		}
		v = next
	}
	if same, code := checkSend(t, v, rowOf(1)); code != impl.CodeFull || !sameSender(same, v) {
		t.Errorf("with all places taken: %d", code)
	}
	for _, tables := range []int{0, 1, impl.MaxTables - 1, impl.MaxTables} {
		for left := range 3 {
			v := senderOf(impl.MaxIndex-tables-left, tables, 0)
			want := impl.CodeOK
			if tables == impl.MaxTables {
				want = impl.CodeFull
			} else if left == 0 {
				want = impl.CodeEnd
			}
			got, code := checkSend(t, v, rowOf(1))
			if code != want || (code == impl.CodeOK) == sameSender(got, v) {
				t.Errorf("%d tables, %d short of MaxIndex: %d; want %d", tables, left, code, want)
			}
		}
	}
}

func TestSendOfWrongTables(t *testing.T) {
	for _, v := range []impl.Sender{senderOf(0, 0, 0), senderOf(0, impl.MaxTables, 0), senderOf(impl.MaxIndex, 0, 0)} {
		for _, wrong := range []impl.Table{{Rows: 1}, {Rows: -1}, rowOf(-129), tableOf(1, text("x")), tableOf(0, number(1)), tableOf(1, impl.Cell{Null: true, N: 1})} {
			if got, code := checkSend(t, v, wrong); code != impl.CodeBad || !sameSender(got, impl.Sender{}) {
				t.Errorf("Send of %v: %s, %d", wrong, short(got), code)
			}
		}
	}
}

// P10: a table is pushed as long as fewer packets wait than the window has.
func TestSenderTickPushes(t *testing.T) {
	for waiting := range 2 * impl.Window {
		for tables := range impl.MaxTables + 1 {
			for _, pushed := range []int{0, tables / 2, tables} {
				v := senderOf(3, tables, pushed)
				v.Out = outOf(1, 40, 9, slices.Repeat([]int{9}, waiting)...)
				got, datagrams, code := checkSenderTick(t, v)
				grows := min(max(0, impl.Window-waiting), tables-pushed)
				if code != impl.CodeOK || got.Pushed != pushed+grows || got.Stream.Next != 3+pushed+grows || len(datagrams) != grows {
					t.Errorf("%d wait, %d of %d pushed: %d, %d datagrams, code %d", waiting, pushed, tables, got.Pushed, len(datagrams), code)
				}
				if got.Base != 3 || len(got.Tables) != tables || len(got.Out.Waiting) != waiting+grows {
					t.Errorf("%d wait, %d of %d pushed: %s", waiting, pushed, tables, short(got))
				}
			}
		}
	}
}

func packetsOf(messages [][]byte) int {
	packets := 0
	for _, message := range messages {
		packets += (len(message) + 99) / 100
	}
	return packets
}

// P10: what has begun to be pushed is pushed whole, with all its messages, also beyond the window.
func TestSenderTickOfTablesWithManyMessages(t *testing.T) {
	table := tableOf(2, text("x"), text("new"), number(1), null, text("t"), text("t"), number(4), number(5), text("other"), text("other"))
	for waiting := range impl.Window + 2 {
		v, _ := checkOpen(t, mixedFields())
		v, _ = checkSend(t, v, table)
		v, _ = checkSend(t, v, table)
		v.Out = outOf(1, 40, 9, slices.Repeat([]int{9}, waiting)...)
		got, _, _ := checkSenderTick(t, v)
		_, first := writeByHand(v.Stream, table)
		packets := packetsOf(first)
		if len(first) != 3 || packets < 4 {
			t.Fatalf("%d messages of %d packets", len(first), packets)
		}
		pushed := 0
		switch {
		case waiting+packets < impl.Window:
			pushed = 2
		case waiting < impl.Window:
			pushed = 1
		}
		if got.Pushed != pushed || pushed > 0 && !sameLists(got.Stream.Dicts[0], texts("x", "new")) {
			t.Errorf("%d wait: %d pushed; want %d", waiting, got.Pushed, pushed)
		}
		if pushed == 0 && len(got.Out.Waiting) != waiting || pushed == 1 && len(got.Out.Waiting) != waiting+packets {
			t.Errorf("%d waited: %d wait", waiting, len(got.Out.Waiting))
		}
	}
}

// greatTable has for its fields one of KindDict with all texts that there can be, and the widest numbers.
func greatTable() ([]impl.Field, impl.Table) {
	fields := manyFields(impl.MaxFields, impl.KindInt)
	for i := range fields {
		fields[i].Width = 8
	}
	fields[0] = field("d", impl.KindDict)
	cells := slices.Repeat([]impl.Cell{number(math.MinInt), null}, impl.MaxFields*impl.MaxRows/2)
	for i := range impl.MaxRows {
		cells[i] = null
	}
	copy(cells, cellsOf(numbered(impl.MaxDict-1)))
	cells[impl.MaxDict] = text(strings.Repeat("x", impl.MaxTexts-4*(impl.MaxDict-1)))
	return fields, tableOf(impl.MaxRows, cells...)
}

// P10: with fewer packets waiting than the window has, there is room for every table.
func TestSenderTickOfTheGreatestTable(t *testing.T) {
	fields, table := greatTable()
	v, _ := checkOpen(t, fields)
	v, code := checkSend(t, v, table)
	if code != impl.CodeOK {
		t.Fatal(code)
	}
	v.Out = outOf(1, 40, 9, slices.Repeat([]int{-1}, impl.Window-1)...)
	got, datagrams, code := checkSenderTick(t, v)
	if code != impl.CodeOK || got.Pushed != 1 || len(datagrams) != impl.Window || len(got.Out.Waiting) < 130 {
		t.Errorf("%d pushed, %d wait, %d datagrams, code %d", got.Pushed, len(got.Out.Waiting), len(datagrams), code)
	}
}

// P10: a full link takes no table, and is no hindrance.
func TestSenderTickWithFullLink(t *testing.T) {
	v := senderOf(0, 5, 2)
	v.Out = outOf(1, impl.MaxSeq, 8, slices.Repeat([]int{-1}, impl.MaxWaiting)...)
	got, datagrams, code := checkSenderTick(t, v)
	if code != impl.CodeOK || got.Pushed != 2 || len(datagrams) != impl.Window || len(got.Out.Waiting) != impl.MaxWaiting {
		t.Errorf("%d pushed, %d datagrams, code %d", got.Pushed, len(datagrams), code)
	}
}

// P10: no number is left for one of the packets: all is as it was, also the tables before it.
func TestSenderTickAtTheLastNumber(t *testing.T) {
	for left := range 5 {
		for tables := range 5 {
			v := senderOf(0, tables, 0)
			v.Out = outOf(1, impl.MaxSeq-left, 6)
			got, datagrams, code := checkSenderTick(t, v)
			if tables <= left {
				if code != impl.CodeOK || got.Pushed != tables || got.Out.Next != impl.MaxSeq-left+tables {
					t.Errorf("%d tables, %d numbers: %s, %d", tables, left, short(got), code)
				}
			} else if code != impl.CodeEnd || len(datagrams) != 0 || !sameSender(got, v) {
				t.Errorf("%d tables, %d numbers: %s, %d", tables, left, short(got), code)
			}
		}
	}
	table := tableOf(1, text("x"), null, null, null, text("y"))
	for left := range 8 {
		v, _ := checkOpen(t, mixedFields())
		v, _ = checkSend(t, v, table)
		v.Out = outOf(1, impl.MaxSeq-left, 6)
		_, messages := writeByHand(v.Stream, table)
		packets := packetsOf(messages)
		got, _, code := checkSenderTick(t, v)
		if (code == impl.CodeOK) != (packets <= left) || code != impl.CodeOK && !sameSender(got, v) {
			t.Errorf("%d packets, %d numbers: %d", packets, left, code)
		}
	}
}

// P10
func TestSenderTickAtTheLastTick(t *testing.T) {
	for _, tables := range []int{0, 1, 3} {
		for _, pushed := range []int{0, tables} {
			v := senderOf(0, tables, pushed)
			v.Out.Now = impl.MaxNow - 1
			last, datagrams, code := checkSenderTick(t, v)
			if code != impl.CodeOK || last.Out.Now != impl.MaxNow || len(datagrams) != max(tables-pushed, min(tables, 1)) {
				t.Errorf("%d of %d pushed: %d datagrams, %d", pushed, tables, len(datagrams), code)
			}
			v.Out.Now = impl.MaxNow
			if got, datagrams, code := checkSenderTick(t, v); code != impl.CodeEnd || len(datagrams) != 0 || !sameSender(got, v) {
				t.Errorf("%d of %d pushed: %d datagrams, %d", pushed, tables, len(datagrams), code)
			}
		}
	}
}

// P10: a ping asks where nothing waits, tables are there, and the tick is a multiple of Timeout.
func TestSenderPings(t *testing.T) {
	for now := range 30 {
		for tables := range 3 {
			for waiting := range 3 {
				v := senderOf(8, tables, tables)
				v.Out = outOf(1, 20, now, slices.Repeat([]int{now}, waiting)...)
				got, datagrams, code := checkSenderTick(t, v)
				var want [][]byte
				if tables > 0 && waiting == 0 && (now+1)%4 == 0 {
					want = [][]byte{packetByHand(ping(1))}
				}
				if code != impl.CodeOK || !sameLists(datagrams, want) || len(got.Tables) != tables {
					t.Errorf("tick %d with %d tables, %d packets: %x", now+1, tables, waiting, datagrams)
				}
			}
		}
	}
	v := senderOf(8, 2, 1)
	v.Epoch, v.Out = 77, outOf(77, 20, 3)
	if _, datagrams, _ := checkSenderTick(t, v); len(datagrams) != 1 || datagrams[0][1] != impl.PackData {
		t.Errorf("a table that is not pushed yet: %x", datagrams)
	}
	v.Pushed, v.Stream.Next = 2, 10
	if _, datagrams, _ := checkSenderTick(t, v); !sameLists(datagrams, [][]byte{packetByHand(ping(77))}) {
		t.Errorf("the epoch 77: %x", datagrams)
	}
}

func TestSenderTakesNothing(t *testing.T) {
	v := senderOf(7, 4, 2)
	v.Epoch, v.Out = 5, outOf(5, 30, 9, 8, 9, -1)
	of := func(p impl.Packet, epoch int) impl.Packet {
		p.Epoch = epoch
		return p
	}
	for _, c := range []struct {
		p    impl.Packet
		want int
	}{
		{of(data(3, "x", true), 5), impl.CodeOld}, {ping(5), impl.CodeOld}, {of(data(3, "x", true), 6), impl.CodeOld}, {ping(4), impl.CodeOld},
		{ack(4, 28, 8), impl.CodeOld}, {ack(6, 28, 8), impl.CodeOld}, {reset(4, 8), impl.CodeOld}, {reset(6, 8), impl.CodeOld},
		{ack(4, 31, 8), impl.CodeOld}, {ack(6, 28, 12), impl.CodeOld}, {reset(4, 12), impl.CodeOld}, {ack(impl.MaxEpoch, 0, 0), impl.CodeOld},
		{ack(5, 28, 12), impl.CodeBad}, {ack(5, 31, 8), impl.CodeBad}, {ack(5, 31, 12), impl.CodeBad}, {reset(5, 12), impl.CodeBad},
		{ack(5, impl.MaxSeq, 7), impl.CodeBad}, {ack(5, 28, impl.MaxIndex), impl.CodeBad}, {reset(5, impl.MaxIndex), impl.CodeBad},
	} {
		if got, code := checkSenderTake(t, v, packetByHand(c.p)); code != c.want || !sameSender(got, v) {
			t.Errorf("%v: %s, %d; want it as it was, %d", c.p, short(got), code, c.want)
		}
	}
	for _, b := range [][]byte{nil, {}, []byte("nonsense"), make([]byte, 25), headerByHand(oneField(), 0), packetByHand(impl.Packet{Kind: 2, Epoch: 5, Last: true}), packetByHand(impl.Packet{Kind: 3, Epoch: 5, Seq: 1}), packetByHand(ack(0, 0, 7))} {
		if got, code := checkSenderTake(t, v, b); code != impl.CodeCorrupt || !sameSender(got, v) {
			t.Errorf("%x: %s, %d; want it as it was, CodeCorrupt", b, short(got), code)
		}
	}
}

// A sender that is not valid stands as it was beside CodeBad, as beside every code other than CodeOK and CodeReset.
func TestSenderTakeOfSendersThatAreNotValid(t *testing.T) {
	v := senderOf(7, 4, 2)
	v.Pushed = 3
	for _, b := range [][]byte{nil, packetByHand(ack(1, 5, 8)), packetByHand(reset(1, 8)), packetByHand(ping(1))} {
		if got, code := checkSenderTake(t, v, b); code != impl.CodeBad || !sameSender(got, v) {
			t.Errorf("%x: %s, %d; want it as it was, CodeBad", b, short(got), code)
		}
	}
}

// P10: every Count and Seq that an acknowledgement may have, and those just beyond them.
func TestSenderTakesAcknowledgements(t *testing.T) {
	for pushed := range 5 {
		v := senderOf(7, 4, pushed)
		v.Out = outOf(1, 30, 9, 8, 9, -1)
		for count := 5; count <= 12; count++ {
			for seq := 25; seq <= 31; seq++ {
				got, code := checkSenderTake(t, v, packetByHand(ack(1, seq, count)))
				k := max(0, count-7)
				switch {
				case k > 4 || seq > 30:
					if code != impl.CodeBad || !sameSender(got, v) {
						t.Errorf("%d pushed, Count %d, Seq %d: %d", pushed, count, seq, code)
					}
				case k > pushed:
					if code != impl.CodeReset || got.Epoch != 2 || got.Base != count || len(got.Tables) != 4-k || got.Pushed != 0 || got.Stream.Next != count || got.Out.Now != 0 || got.Out.Next != 1 {
						t.Errorf("%d pushed, Count %d, Seq %d: %s, %d", pushed, count, seq, short(got), code)
					}
				default:
					if code != impl.CodeOK || got.Epoch != 1 || got.Base != 7+k || !sameTables(got.Tables, v.Tables[k:]) || got.Pushed != pushed-k || got.Stream.Next != 7+pushed || got.Out.Now != 9 || len(got.Out.Waiting) != min(3, 30-seq) {
						t.Errorf("%d pushed, Count %d, Seq %d: %s, %d", pushed, count, seq, short(got), code)
					}
				}
			}
		}
	}
}

// P10
func TestSenderTakesResets(t *testing.T) {
	for pushed := range 5 {
		v := senderOf(7, 4, pushed)
		v.Epoch, v.Out = 9, outOf(9, 30, 9, 8, 9, -1)
		for count := range 13 {
			got, code := checkSenderTake(t, v, packetByHand(reset(9, count)))
			k := max(0, count-7)
			if k > 4 {
				if code != impl.CodeBad || !sameSender(got, v) {
					t.Errorf("Count %d: %s, %d", count, short(got), code)
				}
				continue
			}
			if code != impl.CodeReset || got.Epoch != 10 || got.Base != 7+k || !sameTables(got.Tables, v.Tables[k:]) || got.Pushed != 0 || got.Stream.Next != 7+k || len(got.Out.Waiting) != 1 || got.Out.Next != 1 {
				t.Errorf("Count %d: %s, %d", count, short(got), code)
			}
		}
	}
}

// P10
func TestSenderAtTheLastEpochs(t *testing.T) {
	for left := range 3 {
		epoch := impl.MaxEpoch - left
		v := senderOf(7, 4, 2)
		v.Epoch, v.Out = epoch, outOf(epoch, 30, 9, 8, 9, -1)
		for _, p := range []impl.Packet{reset(epoch, 0), reset(epoch, 7), reset(epoch, 8), reset(epoch, 11), ack(epoch, 30, 10), ack(epoch, 27, 11)} {
			got, code := checkSenderTake(t, v, packetByHand(p))
			if left > 0 && (code != impl.CodeReset || got.Epoch != epoch+1) || left == 0 && (code != impl.CodeEnd || !sameSender(got, v)) {
				t.Errorf("%v: %s, %d", p, short(got), code)
			}
		}
		if got, code := checkSenderTake(t, v, packetByHand(ack(epoch, 30, 9))); code != impl.CodeOK || got.Epoch != epoch || got.Base != 9 {
			t.Errorf("an acknowledgement: %d", code)
		}
		got, code := checkCrashSender(t, v)
		if left > 0 && (code != impl.CodeOK || got.Epoch != epoch+1) || left == 0 && (code != impl.CodeEnd || !sameSender(got, v)) {
			t.Errorf("a crash in epoch %d: %d", epoch, code)
		}
	}
}

// P10
func TestCrashSender(t *testing.T) {
	for _, base := range []int{0, 7, impl.MaxIndex - 4} {
		for pushed := range 5 {
			v := senderOf(base, 4, pushed)
			v.Epoch, v.Out = 3, outOf(3, 30, 9, 8, 9, -1)
			got, code := checkCrashSender(t, v)
			if code != impl.CodeOK || got.Epoch != 4 || got.Base != base || !sameTables(got.Tables, v.Tables) || got.Pushed != 0 || got.Stream.Next != base || got.Out.Now != 0 || len(got.Out.Waiting) != 1 {
				t.Errorf("%s, %d", short(got), code)
			}
		}
	}
}

// P10
func TestReceiverNumbers(t *testing.T) {
	checkReceiver(t, "zero", impl.Receiver{}, true)
	for _, n := range []int{math.MinInt, -1, 0, 1, impl.MaxIndex - 1, impl.MaxIndex, impl.MaxIndex + 1, math.MaxInt} {
		inside := between(n, 0, impl.MaxIndex)
		checkReceiver(t, "count", impl.Receiver{Count: n}, inside)
		checkReceiver(t, "errors", impl.Receiver{Errors: n}, inside)
		checkReceiver(t, "epoch", impl.Receiver{Epoch: n}, inside)
		checkReceiver(t, "all three", impl.Receiver{Epoch: n, Count: n, Errors: n}, inside)
		live := impl.Receiver{Epoch: 1, Count: n, Live: true, In: inOf(5, "")}
		checkReceiver(t, "count, live", live, inside)
		live.Count, live.Errors = 0, n
		checkReceiver(t, "errors, live", live, inside)
		live.Errors, live.Epoch = 0, n
		checkReceiver(t, "epoch of In", live, n == 1)
		live.In = impl.LinkIn{Epoch: n}
		checkReceiver(t, "epoch, live", live, inside && n != 0)
		live.Epoch = 1
		checkReceiver(t, "epoch of In", live, n == 1)
	}
}

// P10
func TestReceiverThatIsNotLive(t *testing.T) {
	good := impl.Receiver{Epoch: 3, Count: 4, Errors: 5}
	checkReceiver(t, "nothing else", good, true)
	empty := good
	empty.In, empty.Stream, empty.Ready = impl.LinkIn{Held: []impl.Packet{}, Part: []byte{}}, impl.Stream{Fields: []impl.Field{}, Dicts: [][][]byte{}}, []impl.Table{}
	checkReceiver(t, "empty lists", empty, true)
	for i, in := range []impl.LinkIn{{Epoch: 3}, {Expect: 1}, {Part: []byte("x")}, {Epoch: -1}, {Expect: -1}, {Held: []impl.Packet{{}}}, inOf(4, "", 5)} {
		r := good
		r.In = in
		checkReceiver(t, "In "+strconv.Itoa(i), r, false)
	}
	for i, s := range []impl.Stream{openOf(oneField(), 0, nil), {Open: true}, {Next: 1}, {Next: -1}, {Fields: oneField()}, {Dicts: make([][][]byte, 1)}} {
		r := good
		r.Stream = s
		checkReceiver(t, "Stream "+strconv.Itoa(i), r, false)
	}
	r := good
	r.Ready = []impl.Table{{}}
	checkReceiver(t, "Ready", r, false)
	r = receiverOf(3, 2, 5)
	checkReceiver(t, "live", r, true)
	r.Live = false
	checkReceiver(t, "no longer live", r, false)
}

// P10
func TestReceiverThatIsLive(t *testing.T) {
	for i, in := range []impl.LinkIn{inOf(-1, ""), inOf(impl.MaxSeq+1, ""), inOf(4, string(lettered(impl.MaxBuffer+1))), inOf(4, "", 4), inOf(4, "", 4+impl.Window), inOf(4, "", 6, 5)} {
		r := receiverOf(3, 2, 5)
		r.In = in
		checkReceiver(t, "In "+strconv.Itoa(i), r, false)
	}
	for i, in := range []impl.LinkIn{inOf(0, ""), inOf(impl.MaxSeq, "x"), inOf(4, string(lettered(impl.MaxBuffer))), inOf(4, "", 5, 6, 11)} {
		r := receiverOf(3, 2, 5)
		r.In = in
		checkReceiver(t, "In "+strconv.Itoa(i), r, true)
	}
	for i, s := range []impl.Stream{{Next: 5}, {Open: true, Next: 5}, {Open: true, Fields: oneField(), Next: 5}, openOf(oneField(), -1, nil), openOf(oneField(), 3, map[int][][]byte{0: texts("x")})} {
		r := receiverOf(9, 0, 5)
		r.Stream = s
		checkReceiver(t, "Stream "+strconv.Itoa(i), r, false)
	}
	r := receiverOf(9, 0, 5)
	r.Stream = impl.Stream{}
	checkReceiver(t, "no stream", r, true)
	r.Ready = []impl.Table{{}}
	checkReceiver(t, "Ready without a stream", r, false)
}

// P10
func TestReceiverReady(t *testing.T) {
	for _, n := range []int{0, 1, impl.MaxTables - 1, impl.MaxTables, impl.MaxTables + 1, 2 * impl.MaxTables} {
		checkReceiver(t, "number of Ready", receiverOf(7, n, 7+n), n <= impl.MaxTables)
	}
	for at := range 3 {
		for _, wrong := range []impl.Table{{Rows: 1}, rowOf(128), tableOf(1, text("x")), tableOf(1, number(1), number(2))} {
			r := receiverOf(7, 3, 10)
			r.Ready[at] = wrong
			checkReceiver(t, "table in Ready", r, false)
		}
	}
	for _, ready := range []int{0, 1, 2, impl.MaxTables} {
		for _, count := range []int{0, 1, 50, impl.MaxIndex - ready} {
			for by := -3; by <= 3; by++ {
				next := count + ready + by
				want := between(next, 0, impl.MaxIndex) && (by == 0 || by < 0 && ready == 0)
				checkReceiver(t, "Next", receiverOf(count, ready, next), want)
			}
		}
	}
	checkReceiver(t, "more than MaxIndex", receiverOf(impl.MaxIndex, 1, impl.MaxIndex+1), false)
	checkReceiver(t, "more than MaxIndex", receiverOf(impl.MaxIndex, 1, impl.MaxIndex), false)
}

// receiverStates are receivers of all sorts, of the epoch 1 where there is one.
func receiverStates() []impl.Receiver {
	fresh := impl.Receiver{Epoch: 1, Count: 4, Live: true, In: impl.LinkIn{Epoch: 1}}
	half := impl.Receiver{Epoch: 1, Live: true, In: inOf(1, string(headerByHand(oneField(), 0)[:20]), 3, 5), Errors: 8}
	held := receiverOf(7, 3, 10)
	held.In = inOf(5, "part", 6, 9)
	behind := receiverOf(7, 0, 3)
	full := receiverOf(7, impl.MaxTables, 7+impl.MaxTables)
	return []impl.Receiver{{}, {Epoch: 1, Count: 7, Errors: 2}, {Epoch: 1}, fresh, half, held, behind, full}
}

// sameButErrors: one more of them, if there can be one more.
func sameButErrors(got, was impl.Receiver) bool {
	was.Errors = min(was.Errors+1, impl.MaxIndex)
	return sameReceiver(got, was)
}

// P10
func TestReceiverTakesBytesThatAreNoPacket(t *testing.T) {
	for _, r := range receiverStates() {
		for _, errors := range []int{0, 1, impl.MaxIndex - 2, impl.MaxIndex - 1, impl.MaxIndex} {
			r.Errors = errors
			for _, b := range [][]byte{nil, {}, []byte("nonsense"), make([]byte, 25), rowMessage(3), packetByHand(impl.Packet{Kind: 1, Epoch: 1}), packetByHand(impl.Packet{Kind: 4, Epoch: 9, Seq: 1}), packetByHand(ping(0))} {
				got, reply, code := checkReceiverTake(t, r, b)
				if code != impl.CodeCorrupt || len(reply) != 0 || !sameButErrors(got, r) {
					t.Errorf("%x: %s, %x, %d", b, short(got), reply, code)
				}
			}
		}
	}
}

// P10
func TestReceiverTakesOldPackets(t *testing.T) {
	for _, r := range receiverStates() {
		for _, epoch := range []int{1, 2, 3, impl.MaxEpoch} {
			for _, p := range []impl.Packet{ack(epoch, 5, 5), reset(epoch, 5), ack(epoch, 0, 0)} {
				got, reply, code := checkReceiverTake(t, r, packetByHand(p))
				if code != impl.CodeOld || len(reply) != 0 || !sameReceiver(got, r) {
					t.Errorf("%v: %s, %x, %d", p, short(got), reply, code)
				}
			}
		}
		for _, epoch := range []int{2, 9, impl.MaxEpoch} {
			r := copyReceiver(r)
			r.Epoch = epoch
			if r.Live {
				r.In = impl.LinkIn{Epoch: epoch, Expect: 3, Part: []byte("p")}
			}
			for _, lower := range []int{1, epoch - 1} {
				for _, p := range []impl.Packet{ping(lower), {Kind: 1, Epoch: lower, Seq: 3, Last: true, Data: []byte("x")}, {Kind: 1, Epoch: lower, Data: headerByHand(oneField(), 0), Last: true}} {
					got, reply, code := checkReceiverTake(t, r, packetByHand(p))
					if code != impl.CodeOld || len(reply) != 0 || !sameReceiver(got, r) {
						t.Errorf("%v: %s, %x, %d", p, short(got), reply, code)
					}
				}
			}
		}
	}
}

// P10: the epoch is taken over with a ping, a packet for later, one that is not expected, and a header.
func TestReceiverTakesGreaterEpochs(t *testing.T) {
	for _, r := range receiverStates() {
		for _, epoch := range []int{2, 3, impl.MaxEpoch} {
			adopted := impl.Receiver{Epoch: epoch, Count: r.Count, Live: true, In: impl.LinkIn{Epoch: epoch}, Errors: r.Errors}
			held, opened := adopted, adopted
			later := impl.Packet{Kind: 1, Epoch: epoch, Seq: 7, Last: true, Data: []byte("later")}
			held.In.Held = []impl.Packet{later}
			opened.In.Expect = 1
			opened.Stream = openOf(oneField(), r.Count, nil)
			unexpected := impl.Packet{Kind: 1, Epoch: epoch, Seq: 8, Last: true, Data: []byte("x")}
			header := impl.Packet{Kind: 1, Epoch: epoch, Last: true, Data: headerByHand(oneField(), r.Count)}
			for _, c := range []struct {
				p        impl.Packet
				want     impl.Receiver
				wantCode int
				wantSeq  int
			}{{ping(epoch), adopted, impl.CodeOK, 0}, {later, held, impl.CodeOK, 0}, {unexpected, adopted, impl.CodeOld, 0}, {header, opened, impl.CodeOK, 1}} {
				got, reply, code := checkReceiverTake(t, r, packetByHand(c.p))
				if code != c.wantCode || !sameReceiver(got, c.want) || !bytes.Equal(reply, packetByHand(ack(epoch, c.wantSeq, r.Count))) {
					t.Errorf("%v: %s, %x, %d; want %s, %d", c.p, short(got), reply, code, short(c.want), c.wantCode)
				}
			}
		}
	}
}

// P10
func TestReceiverThatIsNotLiveAsksForReset(t *testing.T) {
	for _, epoch := range []int{1, 2, impl.MaxEpoch} {
		for _, count := range []int{0, 7, impl.MaxIndex} {
			r := impl.Receiver{Epoch: epoch, Count: count, Errors: 3}
			for _, p := range []impl.Packet{ping(epoch), {Kind: 1, Epoch: epoch, Seq: 30, Data: []byte("x")}, {Kind: 1, Epoch: epoch, Last: true, Data: headerByHand(oneField(), 0)}} {
				got, reply, code := checkReceiverTake(t, r, packetByHand(p))
				if code != impl.CodeReset || !sameReceiver(got, r) || !bytes.Equal(reply, packetByHand(reset(epoch, count))) {
					t.Errorf("%v: %s, %x, %d", p, short(got), reply, code)
				}
			}
		}
	}
}

// P10
func TestReceiverAnswersPings(t *testing.T) {
	for _, r := range receiverStates() {
		if !r.Live {
			continue
		}
		got, reply, code := checkReceiverTake(t, r, packetByHand(ping(1)))
		if code != impl.CodeOK || !sameReceiver(got, r) || !bytes.Equal(reply, packetByHand(ack(1, r.In.Expect, r.Count))) {
			t.Errorf("%s, %x, %d", short(got), reply, code)
		}
	}
	r := receiverOf(impl.MaxIndex, 0, 4)
	r.In.Expect = impl.MaxSeq
	if _, reply, _ := checkReceiverTake(t, r, packetByHand(ping(1))); !bytes.Equal(reply, packetByHand(ack(1, impl.MaxSeq, impl.MaxIndex))) {
		t.Errorf("the greatest numbers: %x", reply)
	}
}

// P10
func TestReceiverTakesPacketsThatAreNotExpected(t *testing.T) {
	r := receiverOf(7, 3, 10)
	r.In = inOf(5, "", 7, 9)
	for seq := range 20 {
		got, reply, code := checkReceiverTake(t, r, packetByHand(data(seq, string(rowMessage(1)), true)))
		want := impl.CodeOK
		if seq < 5 || seq == 7 || seq == 9 || seq >= 5+impl.Window {
			want = impl.CodeOld
		}
		if code != want || (code == impl.CodeOld) != sameReceiver(got, r) || !bytes.Equal(reply, packetByHand(ack(1, got.In.Expect, 7))) {
			t.Errorf("Seq %d: %s, %x, %d; want %d", seq, short(got), reply, code, want)
		}
	}
}

// withMessages is the receiver with all but the first of the messages held, and the datagram that makes them whole.
func withMessages(r impl.Receiver, messages ...[]byte) (impl.Receiver, []byte) {
	r = copyReceiver(r)
	for i, message := range messages[1:] {
		r.In.Held = append(r.In.Held, data(r.In.Expect+1+i, string(message), true))
	}
	return r, packetByHand(data(r.In.Expect, string(messages[0]), true))
}

// P10: good tables, and messages that are wrong each in its way, in every order: the first that is too much or wrong
// decides, and nothing of the others stays.
func TestReceiverTakesManyMessages(t *testing.T) {
	spoilt := rowMessage(9)
	spoilt[9] ^= 1
	kinds := [][]byte{rowMessage(9), spoilt, headerByHand(oneField(), 0), []byte("x"), messageByHand(textsMessage(impl.MsgDelta, 0, texts("t")))}
	for _, ready := range []int{0, impl.MaxTables - 3, impl.MaxTables - 2, impl.MaxTables - 1, impl.MaxTables} {
		for n := 1; n <= 4; n++ {
			listsOver([]int{0, 1, 2, 3, 4}, n, func(order []int) {
				var messages [][]byte
				have, want := ready, impl.CodeOK
				for _, kind := range order {
					messages = append(messages, kinds[kind])
					if want == impl.CodeOK && kind > 0 {
						want = impl.CodeCorrupt
					}
					if want == impl.CodeOK && have == impl.MaxTables {
						want = impl.CodeFull
					}
					have++
				}
				r, b := withMessages(receiverOf(7, ready, 7+ready), messages...)
				got, reply, code := checkReceiverTake(t, r, b)
				if code != want || code != impl.CodeOK && len(reply) != 0 {
					t.Fatalf("%v with %d ready: %d; want %d", order, ready, code, want)
				}
				switch code {
				case impl.CodeOK:
					if len(got.Ready) != ready+n || got.Stream.Next != 7+ready+n || got.In.Expect != 5+n || got.Count != 7 {
						t.Fatalf("%v with %d ready: %s", order, ready, short(got))
					}
				case impl.CodeFull:
					if !sameReceiver(got, r) {
						t.Fatalf("%v with %d ready: %s", order, ready, short(got))
					}
				default:
					if !sameButErrors(got, r) {
						t.Fatalf("%v with %d ready: %s", order, ready, short(got))
					}
				}
			})
		}
	}
}

// P10: a table too many, and then, behind Poll, the same datagram again.
func TestReceiverWithFullReady(t *testing.T) {
	for _, errors := range []int{0, impl.MaxIndex} {
		r := receiverOf(7, impl.MaxTables, 7+impl.MaxTables)
		r.Errors = errors
		b := packetByHand(data(5, string(rowMessage(4)), true))
		same, reply, code := checkReceiverTake(t, r, b)
		if code != impl.CodeFull || len(reply) != 0 || !sameReceiver(same, r) {
			t.Errorf("%s, %x, %d", short(same), reply, code)
		}
		polled, tables, _ := checkPoll(t, same)
		got, _, code := checkReceiverTake(t, polled, b)
		if len(tables) != impl.MaxTables || code != impl.CodeOK || len(got.Ready) != 1 || got.Count != 7+impl.MaxTables || got.Errors != errors {
			t.Errorf("%d tables, %s, %d", len(tables), short(got), code)
		}
	}
	r := receiverOf(0, impl.MaxTables, impl.MaxTables)
	r.Stream = openOf([]impl.Field{field("d", impl.KindDict)}, impl.MaxTables, nil)
	r.Ready = slices.Repeat([]impl.Table{{}}, impl.MaxTables)
	got, _, code := checkReceiverTake(t, r, packetByHand(data(5, string(messageByHand(textsMessage(impl.MsgDelta, 0, texts("t")))), true)))
	if code != impl.CodeOK || !sameLists(got.Stream.Dicts[0], texts("t")) || len(got.Ready) != impl.MaxTables {
		t.Errorf("a dictionary: %s, %d", short(got), code)
	}
}

// P10: a header may begin with what was delivered, or before it, but not behind it.
func TestReceiverTakesHeaders(t *testing.T) {
	for _, count := range []int{0, 1, 7, impl.MaxIndex - 1, impl.MaxIndex} {
		for _, next := range []int{0, 1, count - 1, count, count + 1, count + 2, impl.MaxIndex} {
			if next < 0 || next > impl.MaxIndex {
				continue
			}
			b := packetByHand(data(0, string(headerByHand(oneField(), next)), true))
			for _, r := range []impl.Receiver{{Count: count, Errors: 6}, {Epoch: 1, Count: count, Live: true, In: impl.LinkIn{Epoch: 1}}} {
				got, reply, code := checkReceiverTake(t, r, b)
				if next > count {
					if code != impl.CodeCorrupt || len(reply) != 0 || !sameButErrors(got, r) {
						t.Errorf("Count %d, Next %d: %s, %x, %d", count, next, short(got), reply, code)
					}
				} else if code != impl.CodeOK || got.Epoch != 1 || !got.Stream.Open || got.Stream.Next != next || got.Count != count || len(got.Ready) != 0 {
					t.Errorf("Count %d, Next %d: %s, %d", count, next, short(got), code)
				}
			}
		}
	}
}

// P10: what is wrong with the first packet of a greater epoch leaves the receiver in the one before.
func TestReceiverDoesNotTakeOverFaults(t *testing.T) {
	for _, r := range receiverStates() {
		for _, epoch := range []int{2, impl.MaxEpoch} {
			for _, message := range [][]byte{[]byte("x"), rowMessage(3), headerByHand(oneField(), r.Count+1), headerByHand(wrongFields()[3], 0)} {
				b := packetByHand(impl.Packet{Kind: 1, Epoch: epoch, Last: true, Data: message})
				got, reply, code := checkReceiverTake(t, r, b)
				if code != impl.CodeCorrupt || len(reply) != 0 || !sameButErrors(got, r) {
					t.Errorf("%x: %s, %x, %d", message, short(got), reply, code)
				}
			}
		}
	}
}

// P10: a message that gets longer than any is the link's CodeCorrupt.
func TestReceiverTakesMessagesThatAreTooLong(t *testing.T) {
	for _, errors := range []int{0, 5, impl.MaxIndex - 1, impl.MaxIndex} {
		for room := range 4 {
			r := receiverOf(7, 3, 10)
			r.Errors = errors
			r.In = inOf(5, string(lettered(impl.MaxBuffer-room)), 7, 8)
			got, reply, code := checkReceiverTake(t, r, packetByHand(data(5, "ab", false)))
			if room < 2 {
				if code != impl.CodeCorrupt || len(reply) != 0 || !sameButErrors(got, r) {
					t.Errorf("room for %d: %s, %x, %d", room, short(got), reply, code)
				}
			} else if code != impl.CodeOK || len(got.In.Part) != impl.MaxBuffer-room+2 || got.In.Expect != 6 || got.Errors != errors {
				t.Errorf("room for %d: %s, %x, %d", room, short(got), reply, code)
			}
		}
	}
}

// P10: tables whose number is less than Count and the number of Ready together are passed by.
func TestReceiverPassesTablesBy(t *testing.T) {
	for _, count := range []int{7, impl.MaxIndex - 1} {
		for next := count - 5; next <= count; next++ {
			for n := 1; n <= 7 && next+n <= impl.MaxIndex; n++ {
				var messages [][]byte
				for i := range n {
					messages = append(messages, rowMessage(i))
				}
				r, b := withMessages(receiverOf(count, 0, next), messages...)
				got, reply, code := checkReceiverTake(t, r, b)
				passed := min(n, count-next)
				if code != impl.CodeOK || got.Count != count || got.Stream.Next != next+n || !sameTables(got.Ready, rowsOf(passed, n-passed)) {
					t.Errorf("Count %d, Next %d, %d tables: %s, %d", count, next, n, short(got), code)
				}
				if !bytes.Equal(reply, packetByHand(ack(1, 5+n, count))) {
					t.Errorf("Count %d, Next %d, %d tables: %x", count, next, n, reply)
				}
			}
		}
	}
	var messages [][]byte
	for i := range impl.Window {
		messages = append(messages, rowMessage(i))
	}
	r, b := withMessages(receiverOf(100, 0, 92), messages...)
	if got, _, code := checkReceiverTake(t, r, b); code != impl.CodeOK || len(got.Ready) != 0 || got.Stream.Next != 100 {
		t.Errorf("%s, %d", short(got), code)
	}
}

// P10: no table has a number beyond MaxIndex - 1.
func TestReceiverAtTheLastTable(t *testing.T) {
	b := packetByHand(data(5, string(rowMessage(3)), true))
	got, _, code := checkReceiverTake(t, receiverOf(impl.MaxIndex-1, 0, impl.MaxIndex-1), b)
	if code != impl.CodeOK || len(got.Ready) != 1 || got.Stream.Next != impl.MaxIndex {
		t.Errorf("%s, %d", short(got), code)
	}
	polled, tables, _ := checkPoll(t, got)
	if len(tables) != 1 || polled.Count != impl.MaxIndex {
		t.Errorf("%s", short(polled))
	}
	polled.In.Expect = 5
	if same, _, code := checkReceiverTake(t, polled, b); code != impl.CodeCorrupt || !sameButErrors(same, polled) {
		t.Errorf("%s, %d", short(same), code)
	}
}

// P10
func TestPoll(t *testing.T) {
	for ready := range impl.MaxTables + 1 {
		for _, count := range []int{0, 7, impl.MaxIndex - ready} {
			r := receiverOf(count, ready, count+ready)
			r.Errors = 4
			got, tables, code := checkPoll(t, r)
			if code != impl.CodeOK || !sameTables(tables, rowsOf(50, ready)) || got.Count != count+ready || len(got.Ready) != 0 || got.Errors != 4 || !got.Live {
				t.Errorf("%s, %d tables, %d", short(got), len(tables), code)
			}
			if again, tables, code := checkPoll(t, got); code != impl.CodeOK || len(tables) != 0 || !sameReceiver(again, got) {
				t.Errorf("again: %s, %d tables, %d", short(again), len(tables), code)
			}
		}
	}
	for _, r := range receiverStates() {
		if got, tables, code := checkPoll(t, r); code != impl.CodeOK || len(tables) != len(r.Ready) || len(r.Ready) == 0 && !sameReceiver(got, r) {
			t.Errorf("%s, %d", short(got), code)
		}
	}
}

// P10
func TestCrashReceiver(t *testing.T) {
	for _, r := range receiverStates() {
		r.Errors = 3
		if got, code := checkCrashReceiver(t, r); code != impl.CodeOK || !sameReceiver(got, impl.Receiver{Epoch: r.Epoch, Count: r.Count}) {
			t.Errorf("%s, %d", short(got), code)
		}
	}
}

// spoiltForms are the datagram with each bit changed, cut short everywhere, and with something behind it.
func spoiltForms(b []byte) [][]byte {
	var forms [][]byte
	for bit := range 8 * len(b) {
		form := bytes.Clone(b)
		form[bit/8] ^= 1 << (bit % 8)
		forms = append(forms, form)
	}
	for n := range b {
		forms = append(forms, bytes.Clone(b[:n]))
	}
	return append(forms, append(bytes.Clone(b), 0), append(bytes.Clone(b), b...))
}

// P11
func TestSpoiltDatagramsLeaveTheSender(t *testing.T) {
	sent := senderOf(7, 4, 2)
	sent.Out = outOf(1, 30, 9, 8, 9, -1)
	opened, _ := checkOpen(t, mixedFields())
	last := senderOf(impl.MaxIndex-4, 4, 4)
	last.Epoch, last.Out = impl.MaxEpoch, outOf(impl.MaxEpoch, impl.MaxSeq, impl.MaxNow, -1)
	for _, c := range []struct {
		v       impl.Sender
		packets []impl.Packet
	}{
		{sent, []impl.Packet{ack(1, 30, 9), ack(1, 28, 11), ack(1, 0, 0), reset(1, 8), reset(1, 0), ack(2, 3, 1), ping(1), data(3, "some data", true)}},
		{opened, []impl.Packet{ack(1, 1, 0), reset(1, 0), ping(1)}},
		{last, []impl.Packet{ack(impl.MaxEpoch, impl.MaxSeq, impl.MaxIndex), reset(impl.MaxEpoch, impl.MaxIndex)}},
	} {
		for _, p := range c.packets {
			b := packetByHand(p)
			if _, code := checkSenderTake(t, c.v, b); code == impl.CodeCorrupt {
				t.Fatalf("%v: it is good", p)
			}
			for _, form := range spoiltForms(b) {
				if got, code := checkSenderTake(t, c.v, form); code != impl.CodeCorrupt || !sameSender(got, c.v) {
					t.Fatalf("%v as %x: %s, %d; want it as it was, CodeCorrupt", p, form, short(got), code)
				}
			}
		}
	}
}

// P11
func TestSpoiltDatagramsLeaveTheReceiver(t *testing.T) {
	packets := []impl.Packet{ping(1), ping(7), data(0, string(headerByHand(oneField(), 0)), true), data(5, string(rowMessage(3)), true), data(7, "later", false), ack(1, 5, 5), reset(3, 0),
		{Kind: 1, Epoch: 2, Last: true, Data: headerByHand(oneField(), 0)}, {Kind: 1, Epoch: 9, Seq: 3, Data: lettered(impl.MaxPayload)}}
	for _, r := range receiverStates() {
		for _, p := range packets {
			for _, form := range spoiltForms(packetByHand(p)) {
				got, reply, code := checkReceiverTake(t, r, form)
				if code != impl.CodeCorrupt || len(reply) != 0 || !sameButErrors(got, r) {
					t.Fatalf("%v as %x: %s, %x, %d; want it as it was but for Errors, CodeCorrupt", p, form, short(got), reply, code)
				}
			}
		}
	}
}

// session is a sender and a receiver with a network between them; all calls are held against those by hand.
type session struct {
	t         *testing.T
	below     func(int) int
	v         impl.Sender
	r         impl.Receiver
	toR, toV  [][]byte
	sent      []impl.Table
	delivered []impl.Table
	codes     map[string]int
}

func openSession(t *testing.T, fields []impl.Field, below func(int) int) *session {
	t.Helper()
	v, code := checkOpen(t, fields)
	if code != impl.CodeOK {
		t.Fatal(code)
	}
	return &session{t: t, below: below, v: v, codes: map[string]int{}}
}

func (s *session) count(what string, code int) { s.codes[what+" "+strconv.Itoa(code)]++ }

func (s *session) send(table impl.Table) {
	next, code := checkSend(s.t, s.v, table)
	if code == impl.CodeOK {
		s.sent = append(s.sent, table)
	}
	s.v = next
	s.count("Send", code)
}

func (s *session) tick() {
	next, datagrams, code := checkSenderTick(s.t, s.v)
	s.v, s.toR = next, append(s.toR, copyLists(datagrams)...)
	s.count("SenderTick", code)
}

func (s *session) giveReceiver(b []byte) {
	next, reply, code := checkReceiverTake(s.t, s.r, b)
	s.r = next
	if len(reply) > 0 {
		s.toV = append(s.toV, bytes.Clone(reply))
	}
	s.count("ReceiverTake", code)
}

func (s *session) giveSender(b []byte) {
	next, code := checkSenderTake(s.t, s.v, b)
	s.v = next
	s.count("SenderTake", code)
}

func (s *session) poll() {
	next, tables, _ := checkPoll(s.t, s.r)
	s.r, s.delivered = next, append(s.delivered, tables...)
}

func (s *session) crashSender() {
	s.v, _ = checkCrashSender(s.t, s.v)
	s.count("CrashSender", 0)
}

func (s *session) crashReceiver() {
	s.r, _ = checkCrashReceiver(s.t, s.r)
	s.count("CrashReceiver", 0)
}

// arrive takes some datagram, and gives it on, or not, or twice, or with a bit changed before the good one.
func (s *session) arrive(way *[][]byte, give func([]byte)) {
	if len(*way) == 0 {
		return
	}
	at := s.below(len(*way))
	b := bytes.Clone((*way)[at])
	fate := s.below(8)
	if fate != 0 {
		*way = slices.Delete(*way, at, at+1)
	}
	if fate == 1 {
		return
	}
	if fate == 2 {
		bad := bytes.Clone(b)
		bit := s.below(8 * len(bad))
		bad[bit/8] ^= 1 << (bit % 8)
		give(bad)
	}
	give(b)
}

// look: what is delivered is the beginning of what was sent, and nothing is lost in between.
func (s *session) look() {
	s.t.Helper()
	if len(s.delivered) > len(s.sent) || !sameTables(s.delivered, s.sent[:len(s.delivered)]) || s.r.Count != len(s.delivered) {
		s.t.Fatalf("%d of %d tables are delivered", len(s.delivered), len(s.sent))
	}
	if s.v.Base > s.r.Count || s.v.Base+len(s.v.Tables) != len(s.sent) {
		s.t.Fatalf("Base %d, Count %d, %d tables at the sender, %d sent", s.v.Base, s.r.Count, len(s.v.Tables), len(s.sent))
	}
}

func (s *session) event() {
	switch s.below(40) {
	case 0, 1, 2, 3, 4, 5, 6:
		s.send(copyTables([]impl.Table{thrownTable(s.below, s.v.Fields)})[0])
	case 7, 8, 9, 10, 11, 12:
		s.tick()
	case 13, 14, 15:
		s.poll()
	case 16:
		if s.below(4) == 0 {
			s.crashSender()
		}
	case 17:
		if s.below(4) == 0 {
			s.crashReceiver()
		}
	case 18, 19, 20, 21, 22, 23, 24:
		s.arrive(&s.toV, s.giveSender)
	default:
		s.arrive(&s.toR, s.giveReceiver)
	}
	s.look()
}

// round is one in which nothing goes wrong.
func (s *session) round() {
	s.tick()
	for ; len(s.toR) > 0; s.toR = s.toR[1:] {
		s.giveReceiver(s.toR[0])
	}
	for ; len(s.toV) > 0; s.toV = s.toV[1:] {
		s.giveSender(s.toV[0])
	}
	s.poll()
	s.look()
}

// P10: with datagrams lost, doubled, turned round and spoilt, and crashes of either side in between.
func TestSessionsOverNetwork(t *testing.T) {
	codes := map[string]int{}
	for seed := range uint32(20) {
		below := diceOf(seed + 6000)
		fields := [][]impl.Field{oneField(), mixedFields(), manyFields(3, impl.KindDict), manyFields(2, impl.KindText)}[seed%4]
		s := openSession(t, fields, below)
		for range 700 {
			s.event()
		}
		for rounds := 0; len(s.v.Tables) > 0; rounds++ {
			if rounds > 40+40*len(s.sent) {
				t.Fatalf("seed %d: %d tables are left", seed, len(s.v.Tables))
			}
			s.round()
		}
		if len(s.delivered) != len(s.sent) || len(s.sent) < 5 {
			t.Errorf("seed %d: %d of %d tables", seed, len(s.delivered), len(s.sent))
		}
		for what, n := range s.codes {
			codes[what] += n
		}
	}
	for _, what := range []string{"Send 0", "Send 2", "SenderTick 0", "SenderTake 0", "SenderTake 3", "SenderTake 4", "SenderTake 5",
		"ReceiverTake 0", "ReceiverTake 3", "ReceiverTake 4", "ReceiverTake 5", "CrashSender 0", "CrashReceiver 0"} {
		if codes[what] < 20 {
			t.Errorf("%s comes %d times: %v", what, codes[what], codes)
		}
	}
}

// P10: both sides crash at every place of a straight run, once or at two places.
func TestSessionsWithCrashesEverywhere(t *testing.T) {
	const places = 24
	for first := range places {
		for second := range places {
			s := openSession(t, manyFields(2, impl.KindDict), diceOf(1))
			place := 0
			pass := func() {
				if place == first {
					s.crashReceiver()
				}
				if place == second {
					s.crashSender()
				}
				place++
				s.look()
			}
			for i := range 3 {
				s.send(tableOf(2, text("x"), text(strconv.Itoa(i)), null, text("y")))
				pass()
			}
			for rounds := 0; len(s.v.Tables) > 0 || place < places; rounds++ {
				if rounds > 160 {
					t.Fatalf("crashes at %d and %d: %d tables are left", first, second, len(s.v.Tables))
				}
				s.tick()
				pass()
				for ; len(s.toR) > 0; s.toR = s.toR[1:] {
					s.giveReceiver(s.toR[0])
					pass()
				}
				for ; len(s.toV) > 0; s.toV = s.toV[1:] {
					s.giveSender(s.toV[0])
					pass()
				}
				s.poll()
				pass()
			}
			if len(s.delivered) != 3 {
				t.Fatalf("crashes at %d and %d: %d tables", first, second, len(s.delivered))
			}
		}
	}
}

// A straight run, value by value.
func TestSessionStepByStep(t *testing.T) {
	s := openSession(t, oneField(), diceOf(1))
	s.send(rowOf(1))
	s.send(rowOf(2))
	s.tick()
	want := [][]byte{packetByHand(data(0, string(headerByHand(oneField(), 0)), true)), packetByHand(data(1, string(rowMessage(1)), true)), packetByHand(data(2, string(rowMessage(2)), true))}
	if !sameLists(s.toR, want) || s.v.Pushed != 2 {
		t.Fatalf("%x", s.toR)
	}
	for _, i := range []int{1, 2, 0, 0} {
		s.giveReceiver(want[i])
	}
	if wantReplies := [][]byte{packetByHand(ack(1, 0, 0)), packetByHand(ack(1, 0, 0)), packetByHand(ack(1, 3, 0)), packetByHand(ack(1, 3, 0))}; !sameLists(s.toV, wantReplies) || len(s.r.Ready) != 2 {
		t.Fatalf("%x", s.toV)
	}
	s.giveSender(s.toV[2])
	s.poll()
	if len(s.delivered) != 2 || s.r.Count != 2 || len(s.v.Tables) != 2 || len(s.v.Out.Waiting) != 0 {
		t.Fatalf("%s, %s", short(s.v), short(s.r))
	}
	s.toR, s.toV = nil, nil
	for range 3 {
		s.tick()
	}
	if !sameLists(s.toR, [][]byte{packetByHand(ping(1))}) {
		t.Fatalf("%x", s.toR)
	}
	s.giveReceiver(s.toR[0])
	s.giveSender(s.toV[0])
	if s.v.Base != 2 || len(s.v.Tables) != 0 || s.v.Pushed != 0 || s.v.Stream.Next != 2 {
		t.Fatalf("%s", short(s.v))
	}
}

// thrownSender is a sender that is valid, but for some wrong number now and then.
func thrownSender(below func(int) int) impl.Sender {
	tables := below(5) * below(6)
	base := []int{0, below(9), impl.MaxIndex - tables - below(2)}[below(3)]
	v := senderOf(base, tables, below(tables+1))
	v.Out = thrownOut(below)
	v.Epoch = v.Out.Epoch
	switch below(12) {
	case 0:
		v.Epoch += below(3) - 1
	case 1:
		v.Base += below(3) - 1
	case 2:
		v.Pushed += below(3) - 1
	case 3:
		v.Stream.Next += below(3) - 1
	case 4:
		v.Tables = append(v.Tables, impl.Table{Rows: below(2), Cells: make([]impl.Cell, below(2))})
	case 5:
		v.Stream.Fields[0].Width = 1 << below(4)
	}
	return v
}

// thrownReceiver is the same for receivers.
func thrownReceiver(below func(int) int) impl.Receiver {
	ready := below(4)
	count := []int{0, below(9), impl.MaxIndex - ready - below(3)}[below(3)]
	r := receiverOf(count, ready, count+ready)
	r.In = thrownIn(below)
	for i := range r.In.Held {
		if below(2) == 0 {
			r.In.Held[i].Data, r.In.Held[i].Last = rowMessage(i), true
		}
	}
	if below(2) == 0 {
		r.In.Part = nil
	}
	if ready == 0 {
		r.Stream.Next = max(0, count-below(4))
	}
	switch below(14) {
	case 0:
		r.Epoch = below(3) - 1
	case 1:
		r.Live = false
	case 2:
		r.Stream = impl.Stream{}
	case 3:
		r.Stream.Next += below(3) - 1
	case 4:
		r.Count += below(3) - 1
	case 5:
		r.Ready = append(r.Ready, impl.Table{Rows: below(2), Cells: make([]impl.Cell, below(2))})
	case 6:
		r.Errors = []int{-1, impl.MaxIndex, impl.MaxIndex + 1}[below(3)]
	case 7:
		r = impl.Receiver{Epoch: below(3), Count: count}
	}
	return r
}

// P10: senders and receivers that no run comes to.
func TestThrownSessions(t *testing.T) {
	below := diceOf(610)
	senders, receivers := 0, 0
	for range 8000 {
		v, r := thrownSender(below), thrownReceiver(below)
		if impl.ValidSender(v) != validSenderByHand(v) || impl.ValidReceiver(r) != validReceiverByHand(r) {
			t.Fatalf("ValidSender(%s) = %v, ValidReceiver(%s) = %v", short(v), impl.ValidSender(v), short(r), impl.ValidReceiver(r))
		}
		if impl.ValidSender(v) {
			senders++
		}
		if impl.ValidReceiver(r) {
			receivers++
		}
		checkSend(t, v, rowOf(1))
		checkSenderTick(t, v)
		checkSenderTake(t, v, impl.EncodePacket(ack(1+below(2), below(14), max(0, v.Base+below(8)-2))))
		checkSenderTake(t, v, impl.EncodePacket(reset(1+below(2), max(0, v.Base+below(8)-2))))
		checkCrashSender(t, v)
		p := data(max(0, r.In.Expect+below(11)-2), string(rowMessage(below(9))), below(4) > 0)
		p.Epoch += below(5) / 4
		checkReceiverTake(t, r, packetByHand(p))
		p.Seq, p.Data = max(0, r.In.Expect), headerByHand(oneField(), max(0, r.Count+below(3)-1))
		checkReceiverTake(t, r, packetByHand(p))
		checkReceiverTake(t, r, packetByHand(ping(1+below(2))))
		checkPoll(t, r)
		checkCrashReceiver(t, r)
	}
	if !between(senders, 3000, 7500) || !between(receivers, 3000, 7500) {
		t.Errorf("%d senders and %d receivers are valid", senders, receivers)
	}
}

// roomySender gives the lists of a sender room behind them, in which an answer could come to stand.
func roomySender(v impl.Sender) impl.Sender {
	v = copySender(v)
	for i := range v.Tables {
		v.Tables[i].Cells = append(make([]impl.Cell, 0, len(v.Tables[i].Cells)+9), v.Tables[i].Cells...)
	}
	v.Tables = append(make([]impl.Table, 0, len(v.Tables)+9), v.Tables...)
	v.Out.Waiting = append(make([]impl.Sent, 0, len(v.Out.Waiting)+9), v.Out.Waiting...)
	for i := range v.Stream.Dicts {
		v.Stream.Dicts[i] = append(make([][]byte, 0, len(v.Stream.Dicts[i])+9), v.Stream.Dicts[i]...)
	}
	return v
}

func roomyReceiver(r impl.Receiver) impl.Receiver {
	r = copyReceiver(r)
	r.Ready = append(make([]impl.Table, 0, len(r.Ready)+9), r.Ready...)
	r.In.Held = append(make([]impl.Packet, 0, len(r.In.Held)+9), r.In.Held...)
	r.In.Part = withRoom(r.In.Part, 300)
	for i := range r.Stream.Dicts {
		r.Stream.Dicts[i] = append(make([][]byte, 0, len(r.Stream.Dicts[i])+9), r.Stream.Dicts[i]...)
	}
	return r
}

// checkRoomSender: nothing stands in the room behind the lists.
func checkRoomSender(t *testing.T, v impl.Sender) {
	t.Helper()
	for _, table := range v.Tables[len(v.Tables):cap(v.Tables)] {
		if table.Rows != 0 || table.Cells != nil {
			t.Error("behind the tables was written")
		}
	}
	for _, w := range v.Out.Waiting[len(v.Out.Waiting):cap(v.Out.Waiting)] {
		if !sameSent(w, impl.Sent{}) {
			t.Error("behind the packets was written")
		}
	}
	for _, values := range v.Stream.Dicts {
		for _, value := range values[len(values):cap(values)] {
			if value != nil {
				t.Error("behind a dictionary was written")
			}
		}
	}
}

func checkRoomReceiver(t *testing.T, r impl.Receiver) {
	t.Helper()
	for _, table := range r.Ready[len(r.Ready):cap(r.Ready)] {
		if table.Rows != 0 || table.Cells != nil {
			t.Error("behind the tables was written")
		}
	}
	for _, p := range r.In.Held[len(r.In.Held):cap(r.In.Held)] {
		if !samePacket(p, impl.Packet{}) {
			t.Error("behind the packets was written")
		}
	}
	if part := r.In.Part; !bytes.Equal(part[len(part):len(part)+300], bytes.Repeat([]byte{0xaa}, 300)) {
		t.Error("behind the part of a message was written")
	}
}

// The checks see whether two lists share memory; here there is room behind the lists that are given.
func TestSessionsLeaveArgumentsAsTheyWere(t *testing.T) {
	table := tableOf(2, text("x"), text("new"), number(1), null, text("t"), text("t"), number(4), number(5), text("other"), text("other"))
	v, _ := checkOpen(t, mixedFields())
	for range 5 {
		v, _ = checkSend(t, v, table)
	}
	pushed, datagrams, _ := checkSenderTick(t, v)
	end := copySender(pushed)
	end.Epoch, end.Out = impl.MaxEpoch, outOf(impl.MaxEpoch, impl.MaxSeq, impl.MaxNow, -1, -1)
	for _, v := range []impl.Sender{v, pushed, end} {
		v := roomySender(v)
		checkSend(t, v, table)
		checkSenderTick(t, v)
		for _, p := range []impl.Packet{ack(v.Epoch, v.Out.Next, 1), ack(v.Epoch, 1, 5), reset(v.Epoch, 2), reset(v.Epoch, 5), ack(v.Epoch, 0, 6), ping(1)} {
			checkSenderTake(t, v, withRoom(packetByHand(p), 9))
		}
		checkSenderTake(t, v, nil)
		checkCrashSender(t, v)
		checkRoomSender(t, v)
	}
	r := impl.Receiver{}
	for _, b := range datagrams {
		given := roomyReceiver(r)
		checkReceiverTake(t, given, withRoom(b[:len(b)-1], 9))
		next, _, _ := checkReceiverTake(t, given, withRoom(b, 9))
		checkReceiverTake(t, roomyReceiver(next), withRoom(b, 9))
		checkPoll(t, given)
		checkCrashReceiver(t, given)
		checkRoomReceiver(t, given)
		r = next
	}
	if len(r.Ready) == 0 {
		t.Error("no table has come")
	}
	for _, r := range receiverStates() {
		given := roomyReceiver(r)
		for _, p := range []impl.Packet{data(5, string(rowMessage(3)), true), data(7, "later", true), data(1, "x", true), ping(1), ping(2), ack(1, 1, 1)} {
			checkReceiverTake(t, given, withRoom(packetByHand(p), 9))
		}
		checkPoll(t, given)
		checkRoomReceiver(t, given)
	}
}

func TestSessionConstants(t *testing.T) {
	if impl.MaxTables != 20 {
		t.Error("MaxTables")
	}
}
