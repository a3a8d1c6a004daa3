package tests

import (
	"bytes"
	"fmt"
	"math"
	"slices"
	"testing"

	"loop.example/s01316/impl"
)

func ev(kind, a int) impl.Event { return impl.Event{Kind: kind, A: a} }

// script has the events of pairs of a kind and an A.
func script(pairs ...int) []impl.Event {
	var events []impl.Event
	for i := 0; i < len(pairs); i += 2 {
		events = append(events, ev(pairs[i], pairs[i+1]))
	}
	return events
}

func times(n, kind, a int) []impl.Event { return slices.Repeat(script(kind, a), n) }

func rounds(n int) []impl.Event { return times(n, impl.EvRound, 0) }

// flying is a datagram on the way.
type flying struct {
	b       []byte
	changed bool
}

// handWorld follows the document's words event by event, with the sides by hand.
type handWorld struct {
	tables    []impl.Table
	v         impl.Sender
	r         impl.Receiver
	data      []flying
	replies   []flying
	delivered []impl.Table
}

func putByHand(list *[]flying, b []byte) {
	if len(*list) < 100 {
		*list = append(*list, flying{b: b})
	}
}

// network carries out the kinds 2 to 9.
func (w *handWorld) network(kind, a int) int {
	list := &w.data
	if kind >= 6 {
		list = &w.replies
	}
	if a < 0 {
		return impl.CodeBad
	}
	n := len(*list)
	if n == 0 {
		return impl.CodeOld
	}
	place := a % n
	b := bytes.Clone((*list)[place].b)
	switch (kind - 2) % 4 {
	case 3:
		if (*list)[place].changed {
			return impl.CodeOld
		}
		bit := a / n % (8 * len(b))
		b[bit/8] ^= 1 << (bit % 8)
		(*list)[place] = flying{b, true}
		return impl.CodeOK
	case 2:
		*list = slices.Delete(*list, place, place+1)
		return impl.CodeOK
	case 0:
		*list = slices.Delete(*list, place, place+1)
	}
	if kind >= 6 {
		next, code := senderTakeByHand(w.v, b)
		w.v = next
		return code
	}
	next, reply, code := receiverTakeByHand(w.r, b)
	w.r = next
	if len(reply) > 0 {
		putByHand(&w.replies, reply)
	}
	return code
}

func (w *handWorld) tick() int {
	next, datagrams, code := senderTickByHand(w.v)
	w.v = next
	for _, b := range datagrams {
		putByHand(&w.data, b)
	}
	return code
}

func (w *handWorld) poll() int {
	next, tables, code := pollByHand(w.r)
	w.r = next
	w.delivered = append(w.delivered, tables...)
	return code
}

func (w *handWorld) event(e impl.Event) (code int) {
	switch e.Kind {
	case 0:
		if e.A < 0 || e.A >= len(w.tables) {
			return impl.CodeBad
		}
		w.v, code = sendByHand(w.v, w.tables[e.A])
	case 1:
		code = w.tick()
	case 2, 3, 4, 5, 6, 7, 8, 9:
		code = w.network(e.Kind, e.A)
	case 10:
		code = w.poll()
	case 11:
		w.v, code = crashSenderByHand(w.v)
	case 12:
		w.r, code = crashReceiverByHand(w.r)
	case 13:
		w.tick()
		for len(w.data) > 0 {
			w.network(2, 0)
		}
		for len(w.replies) > 0 {
			w.network(6, 0)
		}
		w.poll()
	default:
		code = impl.CodeBad
	}
	return code
}

// openWorld is a world by hand in which nothing has happened yet.
func openWorld(fields []impl.Field, tables []impl.Table) *handWorld {
	v, _ := openByHand(fields)
	return &handWorld{tables: tables, v: v}
}

func (w *handWorld) result(codes []int) impl.Result {
	return impl.Result{Codes: codes, Delivered: w.delivered, Base: w.v.Base, Count: w.r.Count, Left: len(w.v.Tables), Errors: w.r.Errors}
}

func scriptByHand(fields []impl.Field, tables []impl.Table, events []impl.Event) impl.Result {
	if !impl.ValidFields(fields) || !validTablesByHand(fields, tables) || len(tables) > 20 || len(events) > 2000 {
		return impl.Result{Code: impl.CodeBad}
	}
	w := openWorld(fields, tables)
	var codes []int
	for _, e := range events {
		codes = append(codes, w.event(e))
	}
	return w.result(codes)
}

func sameResult(a, b impl.Result) bool {
	return a.Code == b.Code && slices.Equal(a.Codes, b.Codes) && sameTables(a.Delivered, b.Delivered) &&
		a.Base == b.Base && a.Count == b.Count && a.Left == b.Left && a.Errors == b.Errors
}

// takenBy has the tables that Send took, by the codes.
func takenBy(tables []impl.Table, events []impl.Event, codes []int) []impl.Table {
	var taken []impl.Table
	for i, e := range events {
		if e.Kind == impl.EvSend && codes[i] == impl.CodeOK {
			taken = append(taken, tables[e.A])
		}
	}
	return taken
}

// checkKept holds what a script has shown against what Send took.
func checkKept(t *testing.T, what string, tables []impl.Table, events []impl.Event, r impl.Result) {
	t.Helper()
	if r.Code != impl.CodeOK || len(r.Codes) != len(events) {
		t.Fatalf("%s: code %d, %d codes for %d events", what, r.Code, len(r.Codes), len(events))
	}
	taken := takenBy(tables, events, r.Codes)
	got := len(r.Delivered)
	if got > len(taken) || !sameTables(r.Delivered, taken[:got]) || r.Count != got { // P12
		t.Fatalf("%s: %d delivered, Count %d, of %d that Send took: %s", what, got, r.Count, len(taken), short(r.Delivered))
	}
	if r.Base < 0 || r.Base > r.Count || r.Base+r.Left != len(taken) { // P13
		t.Fatalf("%s: Base %d, Count %d, %d left, of %d that Send took", what, r.Base, r.Count, r.Left, len(taken))
	}
}

// checkScript holds a script's result against the one by hand and the promises, and looks after the arguments.
func checkScript(t *testing.T, fields []impl.Field, tables []impl.Table, events []impl.Event) impl.Result {
	t.Helper()
	fieldsWere := copyStream(impl.Stream{Fields: fields}).Fields
	tablesWere, eventsWere := copyTables(tables), slices.Clone(events)
	want := scriptByHand(fieldsWere, tablesWere, eventsWere)
	got := impl.RunScript(fields, tables, events)
	if !sameResult(got, want) {
		at := 0
		for at < min(len(got.Codes), len(want.Codes)) && got.Codes[at] == want.Codes[at] {
			at++
		}
		t.Fatalf("script %s: %s; want %s; the codes are the same up to number %d", short(events), short(got), short(want), at)
	}
	if !sameFields(fields, fieldsWere) || !sameTables(tables, tablesWere) || !slices.Equal(events, eventsWere) {
		t.Fatal("RunScript has written into an argument")
	}
	checkNoneShared(t, "RunScript", fields, tables, events, got)
	if got.Code == impl.CodeOK {
		checkKept(t, "script", tables, events, got)
	}
	return got
}

// checkCodes runs a script and holds the last codes against those wanted.
func checkCodes(t *testing.T, what string, tables []impl.Table, events []impl.Event, want ...int) impl.Result {
	t.Helper()
	r := checkScript(t, oneField(), tables, events)
	if got := r.Codes[len(r.Codes)-len(want):]; !slices.Equal(got, want) {
		t.Fatalf("%s: codes %v; want %v", what, got, want)
	}
	return r
}

func checkRefused(t *testing.T, what string, fields []impl.Field, tables []impl.Table, events []impl.Event) {
	t.Helper()
	if r := checkScript(t, fields, tables, events); !sameResult(r, impl.Result{Code: impl.CodeBad}) {
		t.Errorf("%s: %s", what, short(r))
	}
}

func TestScriptsOfWrongArguments(t *testing.T) {
	events := script(impl.EvSend, 0, impl.EvRound, 0)
	for _, fields := range wrongFields() {
		checkRefused(t, "fields", fields, nil, nil)
		checkRefused(t, "fields", fields, rowsOf(1, 2), events)
		checkRefused(t, "fields", fields, []impl.Table{{}}, events)
	}
	for what, wrong := range map[string]impl.Table{
		"a cell too few": {Rows: 1}, "a cell too many": tableOf(0, number(1)), "rows": {Rows: -1}, "great number": rowOf(128),
		"Null and number": tableOf(1, impl.Cell{Null: true, N: 1}), "text": tableOf(1, text("x")),
		"rows beyond the limit": tableOf(impl.MaxRows+1, slices.Repeat([]impl.Cell{null}, impl.MaxRows+1)...),
	} {
		for place := range 3 {
			tables := rowsOf(1, 3)
			tables[place] = wrong
			checkRefused(t, what, oneField(), tables, events)
			checkRefused(t, what, oneField(), tables, nil)
		}
		checkRefused(t, what, oneField(), []impl.Table{wrong}, script(impl.EvTick, 0))
	}
	checkRefused(t, "a table of other fields", mixedFields(), rowsOf(1, 1), events)
	checkRefused(t, "one table more", oneField(), rowsOf(1, impl.MaxTables+1), events)
	checkRefused(t, "many tables", oneField(), rowsOf(1, 100), nil)
	checkRefused(t, "one event more", oneField(), rowsOf(1, 1), times(impl.MaxEvents+1, impl.EvPoll, 0))
	checkRefused(t, "one event more, of no kind", oneField(), nil, times(impl.MaxEvents+1, 99, 0))
}

func TestScriptsAtTheLimits(t *testing.T) {
	empty := impl.Result{}
	for _, tables := range [][]impl.Table{nil, {}, rowsOf(1, 1), rowsOf(1, impl.MaxTables), {{}, {}}} {
		for _, events := range [][]impl.Event{nil, {}} {
			if r := checkScript(t, oneField(), tables, events); !sameResult(r, empty) {
				t.Errorf("%d tables, no event: %s", len(tables), short(r))
			}
		}
	}
	r := checkScript(t, oneField(), nil, append(times(impl.MaxEvents-1, impl.EvRound, 0), ev(impl.EvSend, 0)))
	if len(r.Codes) != impl.MaxEvents || r.Codes[impl.MaxEvents-1] != impl.CodeBad || r.Codes[0] != impl.CodeOK || r.Code != impl.CodeOK {
		t.Errorf("most events: %s", short(r))
	}
	var events []impl.Event
	for i := range impl.MaxTables {
		events = append(events, ev(impl.EvSend, i))
	}
	r = checkScript(t, oneField(), rowsOf(1, impl.MaxTables), append(events, rounds(impl.MaxEvents-impl.MaxTables)...))
	if !sameTables(r.Delivered, rowsOf(1, impl.MaxTables)) || r.Base != impl.MaxTables || r.Left != 0 || len(r.Codes) != impl.MaxEvents {
		t.Errorf("most tables: %s", short(r))
	}
	r = checkScript(t, oneField(), rowsOf(1, 2), append(times(impl.MaxEvents-1, impl.EvPoll, 0), ev(impl.EvSend, 1)))
	if r.Left != 1 || r.Codes[impl.MaxEvents-1] != impl.CodeOK {
		t.Errorf("the last event: %s", short(r))
	}
}

func TestScriptSends(t *testing.T) {
	for _, n := range []int{0, 1, 2, 5, impl.MaxTables} {
		tables := rowsOf(1, n)
		for _, a := range []int{math.MinInt, -n - 1, -n, -2, -1, 0, 1, n - 1, n, n + 1, 2 * n, math.MaxInt} {
			want, left := impl.CodeBad, 0
			if between(a, 0, n-1) {
				want, left = impl.CodeOK, 1
			}
			r := checkCodes(t, "one send", tables, script(impl.EvSend, a), want)
			if r.Left != left {
				t.Errorf("%d tables, A %d: %d left", n, a, r.Left)
			}
			r = checkScript(t, oneField(), tables, append(script(impl.EvSend, a), rounds(9)...))
			if left == 1 && !sameTables(r.Delivered, tables[a:a+1]) || len(r.Delivered) != left {
				t.Errorf("%d tables, A %d: %s", n, a, short(r))
			}
		}
	}
}

// With MaxTables tables at the sender there is room again only when some are delivered for certain.
func TestScriptSendsToFullSender(t *testing.T) {
	tables := rowsOf(1, impl.MaxTables)
	full := times(impl.MaxTables, impl.EvSend, 3)
	for _, c := range [][2]int{{-1, impl.CodeBad}, {0, impl.CodeFull}, {impl.MaxTables - 1, impl.CodeFull}, {impl.MaxTables, impl.CodeBad}} {
		r := checkCodes(t, "full", tables, append(slices.Clone(full), script(impl.EvSend, c[0], impl.EvSend, c[0])...), impl.CodeOK, c[1], c[1])
		if r.Left != impl.MaxTables || r.Base != 0 {
			t.Errorf("A %d: %s", c[0], short(r))
		}
	}
	events := append(slices.Clone(full[1:]), script(impl.EvSend, 0, impl.EvSend, 0, impl.EvCrashSender, 0, impl.EvSend, 0, impl.EvCrashReceiver, 0, impl.EvSend, 0)...)
	checkCodes(t, "full behind crashes", tables, events, impl.CodeOK, impl.CodeFull, impl.CodeOK, impl.CodeFull, impl.CodeOK, impl.CodeFull)
	events = append(slices.Clone(full), script(impl.EvRound, 0, impl.EvSend, 1, impl.EvRound, 0, impl.EvSend, 1, impl.EvRound, 0)...)
	r := checkCodes(t, "room behind two rounds", tables, events, impl.CodeOK, impl.CodeOK, impl.CodeFull, impl.CodeOK, impl.CodeOK, impl.CodeOK)
	if len(r.Delivered) == 0 {
		t.Error("nothing is delivered")
	}
	r = checkScript(t, oneField(), tables, append(events, rounds(20)...))
	if len(r.Delivered) != impl.MaxTables+1 || r.Delivered[0].Cells[0].N != 4 || r.Delivered[impl.MaxTables].Cells[0].N != 2 {
		t.Errorf("%s", short(r))
	}
}

// Events of no kind change nothing, wherever they stand.
func TestScriptKindsThatThereAreNot(t *testing.T) {
	tables := rowsOf(1, 3)
	events := append(script(impl.EvSend, 0, impl.EvSend, 1, impl.EvTick, 0, impl.EvData, 1, impl.EvDataSpoil, 0, impl.EvData, 0, impl.EvReply, 0, impl.EvPoll, 0,
		impl.EvCrashReceiver, 0, impl.EvSend, 2, impl.EvTick, 0, impl.EvData, 0, impl.EvReply, 0, impl.EvCrashSender, 0), rounds(5)...)
	want := checkScript(t, oneField(), tables, events)
	for _, kind := range []int{-1, 14, -14, 15, 100, 256, 1 << 32, math.MinInt, math.MaxInt} {
		for _, a := range []int{0, 1, -1} {
			var mixed []impl.Event
			var codes []int
			for i, e := range events {
				mixed = append(mixed, ev(kind, a), e)
				codes = append(codes, impl.CodeBad, want.Codes[i])
			}
			got := checkScript(t, oneField(), tables, mixed)
			if !slices.Equal(got.Codes, codes) {
				t.Fatalf("kind %d: codes %v", kind, got.Codes)
			}
			got.Codes = want.Codes
			if !sameResult(got, want) {
				t.Fatalf("kind %d: %s; want %s", kind, short(got), short(want))
			}
		}
	}
}

// side is one way of the network: its kinds of events, and events that bring n datagrams on this way, of which each would
// be taken with CodeOK.
type side struct {
	name                     string
	take, copy, drop, change int
	lead                     []impl.Event
	n                        int
}

// sides has both ways; each datagram to the receiver is a packet of its own: the header, then a table each.
func sides(n int) []side {
	lead := append(times(n-1, impl.EvSend, 0), ev(impl.EvTick, 0))
	return []side{
		{"to the receiver", impl.EvData, impl.EvDataCopy, impl.EvDataDrop, impl.EvDataSpoil, lead, n},
		{"to the sender", impl.EvReply, impl.EvReplyCopy, impl.EvReplyDrop, impl.EvReplySpoil, append(slices.Clone(lead), times(n, impl.EvData, 0)...), n},
	}
}

// after is the lead with events behind it.
func (s side) after(events ...impl.Event) []impl.Event {
	return append(slices.Clone(s.lead), events...)
}

// probe has the events that tell how many datagrams are on the way, and which of them are spoilt: with n of them, first a
// copy of each, then they are taken out until there is none.
func (s side) probe(n int) []impl.Event {
	var events []impl.Event
	for place := range n {
		events = append(events, ev(s.copy, place))
	}
	return append(append(events, times(n, s.drop, 0)...), ev(s.drop, 0))
}

// checkPlaces: behind the events there are just so many datagrams on the way, with spoilt ones at these places.
func (s side) checkPlaces(t *testing.T, what string, events []impl.Event, n int, spoilt ...int) {
	t.Helper()
	r := checkScript(t, oneField(), rowsOf(1, 2), append(slices.Clone(events), s.probe(n)...))
	codes := r.Codes[len(events):]
	for place := range n {
		if (codes[place] == impl.CodeCorrupt) != slices.Contains(spoilt, place) {
			t.Fatalf("%s, %s: place %d of %d has code %d; want spoilt: %v", s.name, what, place, n, codes[place], spoilt)
		}
		if codes[n+place] != impl.CodeOK {
			t.Fatalf("%s, %s: fewer than %d are on the way", s.name, what, n)
		}
	}
	if codes[2*n] != impl.CodeOld {
		t.Fatalf("%s, %s: more than %d are on the way", s.name, what, n)
	}
}

func TestNetworkWithoutDatagram(t *testing.T) {
	for _, s := range sides(1) {
		for _, kind := range []int{s.take, s.copy, s.drop, s.change} {
			for _, a := range []int{math.MinInt, -100, -2, -1} {
				what := fmt.Sprintf("kind %d, A %d", kind, a)
				checkCodes(t, what, nil, script(kind, a), impl.CodeBad)
				checkCodes(t, what, nil, append(s.after(), script(s.drop, 0, kind, a, kind, a)...), impl.CodeOK, impl.CodeBad, impl.CodeBad)
				s.checkPlaces(t, what, s.after(ev(kind, a)), 1)
				checkCodes(t, what, nil, s.after(ev(kind, a)), impl.CodeBad)
			}
			for _, a := range []int{0, 1, 2, 99, math.MaxInt} {
				what := fmt.Sprintf("kind %d, A %d", kind, a)
				checkCodes(t, what, nil, script(kind, a), impl.CodeOld)
				checkCodes(t, what, nil, append(s.after(), script(s.drop, 0, kind, a, kind, a)...), impl.CodeOK, impl.CodeOld, impl.CodeOld)
				s.checkPlaces(t, what, append(script(kind, a), s.lead...), 1)
			}
		}
	}
}

// A negative A leaves all on the way as it is.
func TestNetworkWithNegativeNumbers(t *testing.T) {
	for _, s := range sides(5) {
		for _, kind := range []int{s.take, s.copy, s.drop, s.change} {
			for _, a := range []int{-1, -2, -5, -6, math.MinInt} {
				events := s.after(ev(s.change, 2), ev(kind, a))
				r := checkCodes(t, "negative", rowsOf(1, 1), events, impl.CodeOK, impl.CodeBad)
				if r.Errors != 0 {
					t.Errorf("%d errors", r.Errors)
				}
				s.checkPlaces(t, "negative", events, 5, 2)
			}
		}
	}
}

// greatNumbers are those at the edges of n datagrams, and far beyond.
func greatNumbers(n int) []int {
	return []int{0, 1, n - 1, n, n + 1, 2*n - 1, 2 * n, 3*n + 2, 1000*n + 1, 1 << 40, math.MaxInt - n, math.MaxInt - 1, math.MaxInt}
}

// One of the datagrams is spoilt, so that what is taken, and what stays, can be told apart.
func TestNetworkDatagramsByNumber(t *testing.T) {
	for _, n := range []int{1, 2, 3, 5, 7} {
		for _, s := range sides(n) {
			for _, a := range greatNumbers(n) {
				place := a % n
				for mark := range n {
					what := fmt.Sprintf("A %d, %d is spoilt", a, mark)
					code, stay := impl.CodeOK, []int{mark}
					switch {
					case mark == place:
						code, stay = impl.CodeCorrupt, nil
					case mark > place:
						stay = []int{mark - 1}
					}
					events := s.after(ev(s.change, mark), ev(s.take, a))
					checkCodes(t, what, rowsOf(1, 1), events, impl.CodeOK, code)
					s.checkPlaces(t, what+", taken", events, n-1, stay...)
					events = s.after(ev(s.change, mark), ev(s.drop, a))
					checkCodes(t, what, rowsOf(1, 1), events, impl.CodeOK, impl.CodeOK)
					s.checkPlaces(t, what+", dropped", events, n-1, stay...)
					events = s.after(ev(s.change, mark), ev(s.copy, a))
					checkCodes(t, what, rowsOf(1, 1), events, impl.CodeOK, code)
					s.checkPlaces(t, what+", copied", events, n, mark)
				}
				events := s.after(ev(s.change, a))
				checkCodes(t, "change", rowsOf(1, 1), events, impl.CodeOK)
				s.checkPlaces(t, fmt.Sprintf("A %d, changed", a), events, n, place)
			}
		}
	}
}

// What is dropped does not come to the other side, and all others do.
func TestNetworkDrops(t *testing.T) {
	tables := rowsOf(1, 7)
	var lead []impl.Event
	for i := range tables {
		lead = append(lead, ev(impl.EvSend, i))
	}
	lead = append(lead, ev(impl.EvTick, 0))
	for place := range 8 {
		for _, a := range []int{place, place + 8, place + 800} {
			events := append(append(slices.Clone(lead), ev(impl.EvDataDrop, a)), append(times(8, impl.EvData, 0), ev(impl.EvPoll, 0))...)
			r := checkScript(t, oneField(), tables, events)
			if codes := r.Codes[len(lead):]; codes[0] != impl.CodeOK || codes[8] != impl.CodeOld || slices.Contains(codes[1:8], impl.CodeOld) {
				t.Fatalf("place %d: codes %v", place, codes)
			}
			if len(r.Delivered) != max(0, place-1) {
				t.Errorf("place %d: %d delivered", place, len(r.Delivered))
			}
		}
	}
	// The reply to the last packet alone tells that all have come; only then the sender asks what is delivered.
	for place := range 8 {
		events := append(append(slices.Clone(lead), times(8, impl.EvData, 0)...), ev(impl.EvReplyDrop, place))
		events = append(append(events, times(7, impl.EvReply, 0)...), times(impl.Timeout-1, impl.EvTick, 0)...)
		asks := 1
		if place == 7 {
			asks = 0
		}
		sides(1)[0].checkPlacesOf(t, tables, append(events, ev(impl.EvReply, 0)), asks)
	}
}

// checkPlacesOf: behind the events, for these tables, there are just so many datagrams on the way.
func (s side) checkPlacesOf(t *testing.T, tables []impl.Table, events []impl.Event, n int) {
	t.Helper()
	r := checkScript(t, oneField(), tables, append(slices.Clone(events), times(n+1, s.drop, 0)...))
	codes := r.Codes[len(events):]
	if codes[n] != impl.CodeOld || n > 0 && codes[n-1] != impl.CodeOK {
		t.Fatalf("%s: codes %v; want %d on the way", s.name, codes, n)
	}
}

// behind has lists of events one behind another.
func behind(lists ...[]impl.Event) []impl.Event { return slices.Concat(lists...) }

func TestNetworkCopiesStay(t *testing.T) {
	const n = 5
	for _, s := range sides(n) {
		for place := range n {
			for mark := range n {
				events := s.after(ev(s.change, mark), ev(s.copy, place), ev(s.copy, place+n), ev(s.copy, place))
				want := impl.CodeOK
				if place == mark {
					want = impl.CodeCorrupt
				}
				r := checkScript(t, oneField(), rowsOf(1, 1), events)
				codes := r.Codes[len(s.lead)+1:]
				if codes[0] != want || (codes[2] == impl.CodeCorrupt) != (place == mark) {
					t.Errorf("%s, place %d: codes %v", s.name, place, codes)
				}
				s.checkPlaces(t, "copied", events, n, mark)
			}
		}
	}
	// Each copy of a packet that is there already is old, and is answered, too.
	events := script(impl.EvTick, 0, impl.EvDataCopy, 0, impl.EvDataCopy, 0, impl.EvData, 0, impl.EvData, 0)
	checkCodes(t, "copies", nil, events, impl.CodeOK, impl.CodeOK, impl.CodeOld, impl.CodeOld, impl.CodeOld)
	sides(1)[1].checkPlaces(t, "replies", events, 3)
}

// bitsByHand has the numbers of bits of those that the events bring on the way.
func (s side) bitsByHand(tables []impl.Table) []int {
	w := openWorld(oneField(), tables)
	for _, e := range s.lead {
		w.event(e)
	}
	list := w.data
	if s.take == impl.EvReply {
		list = w.replies
	}
	var bits []int
	for _, d := range list {
		bits = append(bits, 8*len(d.b))
	}
	return bits
}

func TestNetworkSpoilsAtTheEdges(t *testing.T) {
	const n = 3
	tables := rowsOf(1, 2)
	for _, s := range sides(n) {
		for place, bits := range s.bitsByHand(tables) {
			if bits < 8*20 {
				t.Fatalf("%d bits", bits)
			}
			for _, bit := range []int{0, 1, 7, 8, 9, bits - 8, bits - 1, bits, bits + 1, 2*bits - 1, 2 * bits, 1000*bits + 3, (math.MaxInt - n) / n} {
				a := place + n*bit
				events := s.after(ev(s.change, a))
				checkCodes(t, "a bit", tables, events, impl.CodeOK)
				s.checkPlaces(t, fmt.Sprintf("bit %d of %d", bit, bits), events, n, place)
				r := checkScript(t, oneField(), tables, s.after(ev(s.change, a), ev(s.take, place)))
				if r.Codes[len(r.Codes)-1] != impl.CodeCorrupt {
					t.Errorf("%s: bit %d of %d is not seen", s.name, bit, bits)
				}
			}
		}
	}
}

// P12: no bit can be changed without being seen.
func TestNetworkSpoilsEveryBit(t *testing.T) {
	for _, s := range sides(2) {
		for place, bits := range s.bitsByHand(rowsOf(1, 1)) {
			for bit := range bits {
				checkCodes(t, "a bit", rowsOf(1, 1), s.after(ev(s.change, place+2*bit), ev(s.take, place)), impl.CodeOK, impl.CodeCorrupt)
			}
		}
	}
}

// A second change could take the first one back.
func TestNetworkSpoilsOnce(t *testing.T) {
	const n = 4
	for _, s := range sides(n) {
		for place, bits := range s.bitsByHand(rowsOf(1, 1)) {
			for _, second := range []int{place, place + n, place + n*(bits-1), place + n*bits, place + n*2*bits, math.MaxInt/n*n - n + place} {
				events := s.after(ev(s.change, place), ev(s.change, second))
				checkCodes(t, "twice", rowsOf(1, 1), events, impl.CodeOK, impl.CodeOld)
				s.checkPlaces(t, "twice", events, n, place)
				events = s.after(ev(s.change, second), ev(s.copy, place), ev(s.change, place), ev(s.change, second))
				checkCodes(t, "behind a copy", rowsOf(1, 1), events, impl.CodeOK, impl.CodeCorrupt, impl.CodeOld, impl.CodeOld)
				s.checkPlaces(t, "behind a copy", events, n, place)
			}
		}
	}
}

// Whether a datagram was changed goes with it, and with no other.
func TestNetworkSpoilsBeside(t *testing.T) {
	const n = 5
	for _, s := range sides(n) {
		for place := range n {
			events := s.after(ev(s.change, place))
			var want []int
			for beside := range n {
				events = append(events, ev(s.change, beside))
				code := impl.CodeOK
				if beside == place {
					code = impl.CodeOld
				}
				want = append(want, code)
			}
			checkCodes(t, "beside", rowsOf(1, 1), events, want...)
			s.checkPlaces(t, "beside", events, n, 0, 1, 2, 3, 4)
			for gone := range n {
				events := s.after(ev(s.change, place), ev(s.drop, gone))
				var want, spoilt []int
				for at := range n - 1 {
					events = append(events, ev(s.change, at))
					code := impl.CodeOK
					if gone != place && (at == place && at < gone || at == place-1 && at >= gone) {
						code = impl.CodeOld
					}
					want, spoilt = append(want, code), append(spoilt, at)
				}
				checkCodes(t, "moved", rowsOf(1, 1), events, want...)
				s.checkPlaces(t, "moved", events, n-1, spoilt...)
			}
		}
	}
	// The packet that is sent again is another datagram.
	events := behind(script(impl.EvTick, 0, impl.EvDataSpoil, 0), times(impl.Timeout, impl.EvTick, 0))
	checkCodes(t, "sent again", nil, append(events, script(impl.EvDataSpoil, 0, impl.EvDataSpoil, 1, impl.EvDataSpoil, 1)...), impl.CodeOld, impl.CodeOK, impl.CodeOld)
	events = append(events, script(impl.EvData, 0, impl.EvDataSpoil, 0)...)
	checkCodes(t, "sent again", nil, events, impl.CodeCorrupt, impl.CodeOK)
	events = behind(script(impl.EvTick, 0, impl.EvDataSpoil, 0, impl.EvDataDrop, 0), times(impl.Timeout, impl.EvTick, 0))
	checkCodes(t, "in its place", nil, append(events, script(impl.EvData, 0)...), impl.CodeOK)
}

// manySends has a send of each table.
func manySends(n int) []impl.Event {
	var events []impl.Event
	for i := range n {
		events = append(events, ev(impl.EvSend, i))
	}
	return events
}

// ticksFor has as many ticks as send the same packets so often.
func ticksFor(often int) []impl.Event { return times(1+impl.Timeout*(often-1), impl.EvTick, 0) }

func TestWayToReceiverFull(t *testing.T) {
	s := sides(1)[0]
	for _, c := range []struct{ tables, often, want int }{
		{0, 99, 99}, {0, 100, 100}, {0, 101, 100}, {0, 130, 100},
		{3, 24, 96}, {3, 25, 100}, {3, 26, 100}, {7, 12, 96}, {7, 13, 100}, {7, 14, 100}, {2, 33, 99}, {2, 34, 100},
	} {
		tables := rowsOf(1, c.tables)
		s.checkPlacesOf(t, tables, behind(manySends(c.tables), ticksFor(c.often)), c.want)
	}
	tables := rowsOf(1, 7)
	full := behind(manySends(7), ticksFor(13))
	// Of the last eight packets the first four found room.
	r := checkScript(t, oneField(), tables, behind(full, times(96, impl.EvDataDrop, 0), times(4, impl.EvData, 0), script(impl.EvPoll, 0, impl.EvData, 0)))
	if !sameTables(r.Delivered, tables[:3]) || r.Codes[len(r.Codes)-1] != impl.CodeOld {
		t.Errorf("the last ones: %s", short(r.Delivered))
	}
	// Those that are there stay as they are.
	spoilt := behind(manySends(7), ticksFor(12), script(impl.EvDataSpoil, 0, impl.EvDataSpoil, 95), times(2*impl.Timeout, impl.EvTick, 0))
	codes := checkScript(t, oneField(), tables, behind(spoilt, s.probe(100))).Codes[len(spoilt):]
	for place := range 100 {
		if (codes[place] == impl.CodeCorrupt) != (place == 0 || place == 95) || codes[100+place] != impl.CodeOK {
			t.Errorf("place %d: codes %d, %d", place, codes[place], codes[100+place])
		}
	}
	if codes[200] != impl.CodeOld {
		t.Error("more than 100 are on the way")
	}
	// Where one was taken out there is room for one, at the end.
	events := behind(full, script(impl.EvDataDrop, 50), times(impl.Timeout, impl.EvTick, 0))
	s.checkPlacesOf(t, tables, events, 100)
	r = checkScript(t, oneField(), tables, behind(events, times(99, impl.EvDataDrop, 0), script(impl.EvData, 0, impl.EvReply, 0, impl.EvPoll, 0), times(100, impl.EvDataDrop, 0)))
	if r.Codes[len(events)+99] != impl.CodeOK || r.Codes[len(events)+102] != impl.CodeOld {
		t.Errorf("room for one: %v", r.Codes[len(events)+95:])
	}
}

func TestWayToSenderFull(t *testing.T) {
	s := sides(1)[1]
	tables := rowsOf(1, 3)
	lead := behind(manySends(3), script(impl.EvTick, 0))
	for _, c := range [][2]int{{99, 99}, {100, 100}, {101, 100}, {250, 100}} {
		s.checkPlacesOf(t, tables, behind(lead, times(c[0], impl.EvDataCopy, 0)), c[1])
	}
	full := behind(lead, script(impl.EvDataCopy, 0, impl.EvReplySpoil, 0), times(99, impl.EvDataCopy, 0))
	for more := range 4 {
		// The replies that find no room speak of further packets; those that are there speak of the first.
		events := behind(full, times(more, impl.EvData, 1))
		codes := checkScript(t, oneField(), tables, behind(events, s.probe(100))).Codes[len(events):]
		for place := range 100 {
			if (codes[place] == impl.CodeCorrupt) != (place == 0) || codes[100+place] != impl.CodeOK {
				t.Errorf("place %d: codes %d, %d", place, codes[place], codes[100+place])
			}
		}
		if codes[200] != impl.CodeOld {
			t.Error("more than 100 are on the way")
		}
	}
	// All packets have come, but no reply says so: behind the timeout they are sent again.
	events := behind(full, times(3, impl.EvData, 1), times(100, impl.EvReply, 0), times(4, impl.EvDataDrop, 0), times(impl.Timeout, impl.EvTick, 0))
	sides(1)[0].checkPlacesOf(t, tables, events, 3)
	// With room for one, the next reply says so.
	events = behind(full, script(impl.EvReplyDrop, 7), times(3, impl.EvData, 1), script(impl.EvReply, 99), times(4, impl.EvDataDrop, 0), times(impl.Timeout, impl.EvTick, 0))
	sides(1)[0].checkPlacesOf(t, tables, events, 2)
}

func TestDataWithoutAnswer(t *testing.T) {
	toSender := sides(1)[1]
	for _, kind := range []int{impl.EvData, impl.EvDataCopy} {
		// a spoilt one
		events := script(impl.EvTick, 0, impl.EvDataSpoil, 0, kind, 0)
		r := checkCodes(t, "spoilt", nil, append(slices.Clone(events), ev(impl.EvReply, 0)), impl.CodeCorrupt, impl.CodeOld)
		if r.Errors != 1 {
			t.Errorf("%d errors", r.Errors)
		}
		// one of an epoch that is gone by, behind one of the next
		events = script(impl.EvTick, 0, impl.EvCrashSender, 0, impl.EvTick, 0, impl.EvData, 1, kind, 0)
		checkCodes(t, "old", nil, events, impl.CodeOK, impl.CodeOld)
		toSender.checkPlaces(t, "old", events, 1)
	}
	// An old packet of this epoch is answered.
	toSender.checkPlaces(t, "old", script(impl.EvTick, 0, impl.EvDataCopy, 0, impl.EvData, 0), 2)
	// So is every packet to a receiver that has crashed.
	events := script(impl.EvTick, 0, impl.EvDataCopy, 0, impl.EvCrashReceiver, 0, impl.EvDataCopy, 0, impl.EvDataCopy, 0)
	checkCodes(t, "crashed", nil, events, impl.CodeOK, impl.CodeOK, impl.CodeReset, impl.CodeReset)
	toSender.checkPlaces(t, "crashed", events, 3)
	checkCodes(t, "crashed", nil, append(events, script(impl.EvReply, 0, impl.EvReply, 0, impl.EvReply, 0)...), impl.CodeOK, impl.CodeReset, impl.CodeOld)
}

// longRound has the events of which an EvRound is made; those behind the last datagram change nothing.
func longRound() []impl.Event {
	return behind(script(impl.EvTick, 0), times(100, impl.EvData, 0), times(100, impl.EvReply, 0), script(impl.EvPoll, 0))
}

// checkRounds runs events with rounds behind them, and holds these against the events of which they are made; nothing is
// on the way behind a round.
func checkRounds(t *testing.T, tables []impl.Table, events []impl.Event, n int) impl.Result {
	t.Helper()
	got := checkScript(t, oneField(), tables, behind(events, rounds(n)))
	long := checkScript(t, oneField(), tables, behind(events, slices.Repeat(longRound(), n)))
	if !slices.Equal(got.Codes[len(events):], make([]int, n)) {
		t.Fatalf("codes %v", got.Codes[len(events):])
	}
	got.Codes, long.Codes = nil, nil
	if !sameResult(got, long) {
		t.Fatalf("%s; event by event %s", short(got), short(long))
	}
	if n > 0 {
		checkCodes(t, "behind rounds", tables, behind(events, rounds(n), script(impl.EvData, 0, impl.EvReply, 0)), impl.CodeOld, impl.CodeOld)
	}
	return got
}

func checkEnd(t *testing.T, what string, r impl.Result, delivered, base, count, left, errors int) {
	t.Helper()
	if len(r.Delivered) != delivered || r.Base != base || r.Count != count || r.Left != left || r.Errors != errors {
		t.Errorf("%s: %d delivered, Base %d, Count %d, Left %d, Errors %d; want %d, %d, %d, %d, %d", what,
			len(r.Delivered), r.Base, r.Count, r.Left, r.Errors, delivered, base, count, left, errors)
	}
}

func TestRoundsWithNothingToDo(t *testing.T) {
	for n := range 9 {
		checkEnd(t, "nothing", checkRounds(t, nil, nil, n), 0, 0, 0, 0, 0)
	}
	done := behind(script(impl.EvSend, 0), rounds(8))
	for n := range 9 {
		checkEnd(t, "nothing more", checkRounds(t, rowsOf(1, 1), done, n), 1, 1, 1, 0, 0)
	}
}

func TestRoundsWithFullWays(t *testing.T) {
	tables := rowsOf(1, 7)
	full := behind(manySends(7), ticksFor(14))
	checkEnd(t, "full to the receiver", checkRounds(t, tables, full, 1), 7, 0, 7, 7, 0)
	checkEnd(t, "full to the receiver", checkRounds(t, tables, full, 4), 7, 7, 7, 0, 0)
	// The replies on the way leave no room for those of the round.
	replies := behind(manySends(3), script(impl.EvTick, 0), times(101, impl.EvDataCopy, 0))
	checkEnd(t, "full to the sender", checkRounds(t, tables, replies, 1), 3, 0, 3, 3, 0)
	checkEnd(t, "full to the sender", checkRounds(t, tables, replies, 3), 3, 0, 3, 3, 0)
	checkEnd(t, "full to the sender", checkRounds(t, tables, replies, 4), 3, 3, 3, 0, 0)
	// The first ones find room, and the first five say that the packets 0 to 4 have come.
	some := behind(manySends(7), script(impl.EvTick, 0), times(95, impl.EvDataCopy, 0), script(impl.EvRound, 0), times(impl.Timeout-1, impl.EvTick, 0))
	sides(1)[0].checkPlacesOf(t, tables, some, 3)
	both := behind(full, times(100, impl.EvDataCopy, 0))
	checkEnd(t, "full both ways", checkRounds(t, tables, both, 1), 7, 0, 7, 7, 0)
	checkEnd(t, "full both ways", checkRounds(t, tables, both, 8), 7, 7, 7, 0, 0)
}

func TestRoundsWithSpoiltDatagrams(t *testing.T) {
	tables := rowsOf(1, 3)
	lead := behind(manySends(3), script(impl.EvTick, 0))
	for place := range 4 {
		events := append(slices.Clone(lead), ev(impl.EvDataSpoil, place))
		checkEnd(t, "one to the receiver", checkRounds(t, tables, events, 1), max(0, place-1), 0, max(0, place-1), 3, 1)
		checkEnd(t, "one to the receiver", checkRounds(t, tables, events, 9), 3, 3, 3, 0, 1)
	}
	all := append(slices.Clone(lead), script(impl.EvDataSpoil, 0, impl.EvDataSpoil, 1, impl.EvDataSpoil, 2, impl.EvDataSpoil, 3)...)
	checkEnd(t, "all to the receiver", checkRounds(t, tables, all, 3), 0, 0, 0, 3, 4)
	checkEnd(t, "all to the receiver", checkRounds(t, tables, all, 4), 3, 0, 3, 3, 4)
	checkEnd(t, "all to the receiver", checkRounds(t, tables, all, 9), 3, 3, 3, 0, 4)
	for place := range 4 {
		events := append(behind(lead, times(4, impl.EvData, 0)), ev(impl.EvReplySpoil, place))
		checkEnd(t, "one to the sender", checkRounds(t, tables, events, 1), 3, 0, 3, 3, 0)
		checkEnd(t, "one to the sender", checkRounds(t, tables, events, 9), 3, 3, 3, 0, 0)
	}
}

func TestRoundsBehindCrashes(t *testing.T) {
	tables := rowsOf(1, 2)
	for _, crashes := range [][]impl.Event{
		script(impl.EvCrashSender, 0), script(impl.EvCrashReceiver, 0),
		script(impl.EvCrashSender, 0, impl.EvCrashReceiver, 0), script(impl.EvCrashReceiver, 0, impl.EvCrashSender, 0),
		times(5, impl.EvCrashSender, 0), times(5, impl.EvCrashReceiver, 0),
		slices.Repeat(script(impl.EvCrashReceiver, 0, impl.EvCrashSender, 0), 4),
	} {
		for what, lead := range map[string][]impl.Event{
			"ahead of all": nil, "sent": manySends(2), "ticked": behind(manySends(2), script(impl.EvTick, 0)),
			"a packet": behind(manySends(2), script(impl.EvTick, 0, impl.EvData, 0)), "ready": behind(manySends(2), script(impl.EvTick, 0), times(3, impl.EvData, 0)),
			"replies":   behind(manySends(2), script(impl.EvTick, 0), times(3, impl.EvData, 0), times(3, impl.EvReply, 0)),
			"one reply": behind(manySends(2), script(impl.EvTick, 0), times(3, impl.EvData, 0), script(impl.EvReply, 2)),
			"delivered": behind(manySends(2), script(impl.EvRound, 0)), "delivered for certain": behind(manySends(2), rounds(6)),
		} {
			sent := len(takenBy(tables, lead, make([]int, len(lead))))
			r := checkRounds(t, tables, behind(lead, crashes), 1)
			if r.Errors != 0 {
				t.Errorf("%s: %d errors", what, r.Errors)
			}
			r = checkRounds(t, tables, behind(lead, crashes), 8)
			checkEnd(t, what, r, sent, sent, sent, 0, 0)
			r = checkRounds(t, tables, behind(lead, crashes, script(impl.EvRound, 0), crashes), 8)
			checkEnd(t, what+", twice", r, sent, sent, sent, 0, 0)
		}
	}
	// behind a crash of the sender the new epoch is taken at once; behind one of the receiver it must be asked for
	checkEnd(t, "sender", checkRounds(t, tables, behind(manySends(2), script(impl.EvTick, 0, impl.EvData, 0, impl.EvCrashSender, 0)), 1), 2, 0, 2, 2, 0)
	lead := behind(manySends(2), script(impl.EvTick, 0, impl.EvData, 0, impl.EvCrashReceiver, 0))
	checkEnd(t, "receiver", checkRounds(t, tables, lead, 1), 0, 0, 0, 2, 0)
	checkEnd(t, "receiver", checkRounds(t, tables, lead, 2), 2, 0, 2, 2, 0)
	// a receiver that has seen no packet yet loses nothing
	checkEnd(t, "zero receiver", checkRounds(t, tables, behind(manySends(2), script(impl.EvTick, 0, impl.EvCrashReceiver, 0)), 1), 2, 0, 2, 2, 0)
}

func TestCrashCodes(t *testing.T) {
	crashes := script(impl.EvCrashSender, 0, impl.EvCrashSender, 7, impl.EvCrashReceiver, 0, impl.EvCrashReceiver, -1, impl.EvCrashSender, -3)
	r := checkCodes(t, "ahead of the first tick", rowsOf(1, 1), crashes, 0, 0, 0, 0, 0)
	checkEnd(t, "ahead of the first tick", r, 0, 0, 0, 0, 0)
	// what is on the way outlives both
	for _, s := range sides(3) {
		s.checkPlaces(t, "crashed", s.after(append(script(s.change, 1), crashes...)...), 3, 1)
	}
	// a crash of the receiver takes Errors back, one of the sender does not
	events := script(impl.EvTick, 0, impl.EvDataSpoil, 0, impl.EvDataCopy, 0, impl.EvDataCopy, 0, impl.EvCrashSender, 0)
	checkEnd(t, "sender", checkScript(t, oneField(), nil, events), 0, 0, 0, 0, 2)
	events = append(events, ev(impl.EvCrashReceiver, 0))
	checkEnd(t, "receiver", checkScript(t, oneField(), nil, events), 0, 0, 0, 0, 0)
	checkEnd(t, "receiver", checkScript(t, oneField(), nil, append(events, ev(impl.EvData, 0))), 0, 0, 0, 0, 1)
	// as many crashes as there can be events
	r = checkScript(t, oneField(), rowsOf(1, 1), behind(manySends(1), slices.Repeat(crashes, 390), rounds(9)))
	checkEnd(t, "many", r, 1, 1, 1, 0, 0)
}

// For these kinds A plays no part.
func TestEventsWithoutNumber(t *testing.T) {
	tables := rowsOf(1, 2)
	events := func(a int) []impl.Event {
		return script(impl.EvSend, 1, impl.EvTick, a, impl.EvData, 0, impl.EvData, 0, impl.EvPoll, a, impl.EvCrashSender, a, impl.EvSend, 0,
			impl.EvRound, a, impl.EvCrashReceiver, a, impl.EvRound, a, impl.EvTick, a, impl.EvRound, a, impl.EvRound, a, impl.EvRound, a)
	}
	want := checkScript(t, oneField(), tables, events(0))
	checkEnd(t, "A 0", want, 2, 2, 2, 0, 0)
	for _, a := range []int{-1, 1, 2, 13, math.MinInt, math.MaxInt} {
		if got := checkScript(t, oneField(), tables, events(a)); !sameResult(got, want) {
			t.Errorf("A %d: %s; want %s", a, short(got), short(want))
		}
	}
}

// A script, value by value.
func TestScriptStepByStep(t *testing.T) {
	tables := rowsOf(1, 3)
	type step struct {
		e                            impl.Event
		code                         int
		got, base, count, left, errs int
	}
	steps := []step{
		{ev(impl.EvSend, 0), impl.CodeOK, 0, 0, 0, 1, 0},
		{ev(impl.EvSend, 2), impl.CodeOK, 0, 0, 0, 2, 0},
		{ev(impl.EvTick, 0), impl.CodeOK, 0, 0, 0, 2, 0}, // on the way: the header 0, the packets 1 and 2
		{ev(impl.EvDataSpoil, 4), impl.CodeOK, 0, 0, 0, 2, 0},
		{ev(impl.EvDataSpoil, 1), impl.CodeOld, 0, 0, 0, 2, 0},
		{ev(impl.EvData, 7), impl.CodeCorrupt, 0, 0, 0, 2, 1}, // the packet 1 is lost
		{ev(impl.EvReply, 0), impl.CodeOld, 0, 0, 0, 2, 1},
		{ev(impl.EvData, 1), impl.CodeOK, 0, 0, 0, 2, 1}, // the packet 2 is held
		{ev(impl.EvDataCopy, 0), impl.CodeOK, 0, 0, 0, 2, 1},
		{ev(impl.EvData, 0), impl.CodeOld, 0, 0, 0, 2, 1},
		{ev(impl.EvData, 0), impl.CodeOld, 0, 0, 0, 2, 1}, // nothing is on the way
		{ev(impl.EvReply, 0), impl.CodeOK, 0, 0, 0, 2, 1}, // it expects the header
		{ev(impl.EvPoll, 0), impl.CodeOK, 0, 0, 0, 2, 1},  // no table is whole
		{ev(impl.EvTick, 0), impl.CodeOK, 0, 0, 0, 2, 1},  // 2
		{ev(impl.EvTick, 0), impl.CodeOK, 0, 0, 0, 2, 1},  // 3
		{ev(impl.EvTick, 0), impl.CodeOK, 0, 0, 0, 2, 1},  // 4
		{ev(impl.EvDataDrop, 0), impl.CodeOld, 0, 0, 0, 2, 1},
		{ev(impl.EvTick, 0), impl.CodeOK, 0, 0, 0, 2, 1}, // 5: all three again
		{ev(impl.EvData, 1), impl.CodeOK, 0, 0, 0, 2, 1}, // both tables are ready
		{ev(impl.EvPoll, 0), impl.CodeOK, 2, 0, 2, 2, 1},
		{ev(impl.EvPoll, 0), impl.CodeOK, 2, 0, 2, 2, 1},
		{ev(impl.EvData, 0), impl.CodeOld, 2, 0, 2, 2, 1}, // the header; the reply says that two are delivered
		{ev(impl.EvReply, 2), impl.CodeOK, 2, 0, 2, 2, 1}, // all have come, none is delivered
		{ev(impl.EvReply, 2), impl.CodeOK, 2, 2, 2, 0, 1}, // both are delivered
		{ev(impl.EvReply, 0), impl.CodeOK, 2, 2, 2, 0, 1}, // an older one
		{ev(impl.EvCrashReceiver, 0), impl.CodeOK, 2, 2, 2, 0, 0},
		{ev(impl.EvData, 0), impl.CodeReset, 2, 2, 2, 0, 0}, // the packet 2
		{ev(impl.EvReply, 1), impl.CodeReset, 2, 2, 2, 0, 0},
		{ev(impl.EvReply, 0), impl.CodeOld, 2, 2, 2, 0, 0}, // one of the epoch before
		{ev(impl.EvSend, 1), impl.CodeOK, 2, 2, 2, 1, 0},
		{ev(impl.EvRound, 0), impl.CodeOK, 3, 2, 3, 1, 0},
		{ev(impl.EvRound, 0), impl.CodeOK, 3, 2, 3, 1, 0},
		{ev(impl.EvRound, 0), impl.CodeOK, 3, 2, 3, 1, 0},
		{ev(impl.EvRound, 0), impl.CodeOK, 3, 3, 3, 0, 0}, // 4: the sender has asked
		{ev(99, 0), impl.CodeBad, 3, 3, 3, 0, 0},
	}
	var events []impl.Event
	for i, s := range steps {
		events = append(events, s.e)
		r := checkCodes(t, fmt.Sprintf("step %d", i), tables, events, s.code)
		checkEnd(t, fmt.Sprintf("step %d", i), r, s.got, s.base, s.count, s.left, s.errs)
	}
	r := checkScript(t, oneField(), tables, events)
	if !sameTables(r.Delivered, []impl.Table{rowOf(1), rowOf(3), rowOf(2)}) {
		t.Errorf("%s", short(r.Delivered))
	}
}

// A rule has for each kind how many of its parts are events of it; the last number is that for other kinds.
type rule [15]int

func rules() []rule {
	return []rule{
		{8, 14, 34, 3, 2, 2, 22, 2, 2, 2, 7, 1, 1, 1, 1},  // little goes wrong
		{8, 16, 14, 9, 8, 8, 12, 7, 6, 6, 6, 2, 2, 0, 1},  // much goes wrong
		{7, 14, 20, 6, 3, 3, 14, 5, 3, 3, 8, 9, 9, 2, 0},  // many crashes
		{9, 40, 2, 12, 1, 6, 2, 12, 1, 6, 3, 1, 1, 1, 0},  // more comes on the ways than goes
		{12, 12, 30, 4, 2, 1, 6, 8, 8, 2, 10, 1, 1, 0, 1}, // few replies
		{14, 18, 8, 2, 14, 6, 16, 3, 1, 1, 8, 1, 3, 3, 0}, // much is lost on the way to the receiver
	}
}

func thrownNumber(below func(int) int) int {
	switch below(12) {
	case 0, 1, 2, 3:
		return 0
	case 4:
		return below(1<<20) * 1009
	case 5:
		if below(4) == 0 {
			return -1 - below(3)
		}
		return math.MaxInt - below(1000)
	}
	return below(30)
}

func (of rule) event(below func(int) int, tables int) impl.Event {
	sum := 0
	for _, parts := range of {
		sum += parts
	}
	at := below(sum)
	kind := 0
	for at >= of[kind] {
		at -= of[kind]
		kind++
	}
	switch {
	case kind == 14:
		return ev(14+below(3)*(below(40)-20), thrownNumber(below))
	case kind == impl.EvSend && below(30) > 0:
		return ev(kind, below(tables))
	}
	return ev(kind, thrownNumber(below))
}

func (of rule) script(below func(int) int, tables, n int) []impl.Event {
	var events []impl.Event
	for range n {
		events = append(events, of.event(below, tables))
	}
	return events
}

func thrownTables(below func(int) int, fields []impl.Field, n int) []impl.Table {
	var tables []impl.Table
	for range n {
		tables = append(tables, thrownTable(below, fields))
	}
	return copyTables(tables)
}

func worldFields() [][]impl.Field {
	return [][]impl.Field{oneField(), mixedFields(), manyFields(3, impl.KindDict), manyFields(2, impl.KindText), manyFields(impl.MaxFields, impl.KindBool)}
}

// enough has as many rounds behind the events as the document asks for.
func enough(events []impl.Event, taken int) []impl.Event {
	n := min(40+40*taken, impl.MaxEvents-len(events))
	return behind(events, rounds(n))
}

// checkAllDelivered: with enough rounds behind the events, all tables are delivered. (P14)
func checkAllDelivered(t *testing.T, what string, fields []impl.Field, tables []impl.Table, events []impl.Event, r impl.Result) {
	t.Helper()
	checkKept(t, what, tables, events, r)
	taken := takenBy(tables, events, r.Codes)
	all := enough(events, len(taken))
	end := impl.RunScript(fields, tables, all)
	checkKept(t, what, tables, all, end)
	if !sameTables(end.Delivered, taken) || end.Left != 0 || end.Base != len(taken) || end.Count != len(taken) || end.Errors < r.Errors {
		t.Fatalf("%s: behind the rounds %d of %d tables are delivered, %d left, Base %d, Errors %d", what, len(end.Delivered), len(taken), end.Left, end.Base, end.Errors)
	}
}

// P12, P13, P14: at every place of a script, for each kind of fields and each rule.
func TestScriptsAtEveryPlace(t *testing.T) {
	for seed := range uint32(30) {
		t.Run(fmt.Sprint(seed), func(t *testing.T) {
			t.Parallel()
			below := diceOf(seed + 7000)
			fields := worldFields()[seed%5]
			tables := thrownTables(below, fields, 1+below(impl.MaxTables))
			events := rules()[seed%6].script(below, len(tables), 60+below(60))
			checkEveryPlace(t, fields, tables, events)
		})
	}
}

func checkEveryPlace(t *testing.T, fields []impl.Field, tables []impl.Table, events []impl.Event) {
	t.Helper()
	whole := checkScript(t, fields, tables, events)
	for place := range len(events) + 1 {
		what := fmt.Sprintf("behind event %d", place)
		part := events[:place]
		r := impl.RunScript(fields, tables, part)
		checkKept(t, what, tables, part, r)
		got := len(r.Delivered)
		if !slices.Equal(r.Codes, whole.Codes[:place]) || got > len(whole.Delivered) || !sameTables(r.Delivered, whole.Delivered[:got]) {
			t.Fatalf("%s: what comes later has changed what was", what)
		}
		if place%5 == 0 || place == len(events) {
			checkAllDelivered(t, what, fields, tables, part, r)
		}
	}
}

// P12, P13, P14: scripts that are long, each held against the one by hand.
func TestLongScripts(t *testing.T) {
	codes := map[string]int{}
	for seed := range uint32(12) {
		below := diceOf(seed + 8000)
		fields := worldFields()[seed%5]
		tables := thrownTables(below, fields, 1+below(impl.MaxTables))
		events := rules()[seed%6].script(below, len(tables), 1100)
		r := checkScript(t, fields, tables, events)
		checkAllDelivered(t, fmt.Sprintf("seed %d", seed), fields, tables, events, r)
		if again := impl.RunScript(fields, tables, events); !sameResult(again, r) {
			t.Fatalf("seed %d: another answer when asked again", seed)
		}
		for i, e := range events {
			kind := "other"
			if between(e.Kind, 0, 13) {
				kind = fmt.Sprint(e.Kind)
			}
			codes[fmt.Sprintf("%s: %d", kind, r.Codes[i])]++
		}
		codes["delivered"] += len(r.Delivered)
	}
	// what the rules are there for has come about
	for _, what := range []string{"0: 0", "0: 1", "0: 2", "1: 0", "2: 0", "2: 1", "2: 3", "2: 4", "2: 5", "3: 0", "3: 1", "3: 3", "3: 4", "3: 5", "4: 0", "4: 1", "4: 4",
		"5: 0", "5: 1", "5: 4", "6: 0", "6: 1", "6: 3", "6: 4", "6: 5", "7: 0", "7: 1", "7: 3", "7: 4", "7: 5", "8: 0", "8: 1", "8: 4", "9: 0", "9: 1", "9: 4",
		"10: 0", "11: 0", "12: 0", "13: 0", "other: 1"} {
		if codes[what] < 5 {
			t.Errorf("%s comes %d times: %v", what, codes[what], codes)
		}
	}
	if codes["delivered"] < 200 {
		t.Errorf("%d tables are delivered: %v", codes["delivered"], codes)
	}
}

// P12, P13, P14: all short scripts of some events behind a beginning.
func TestAllShortScripts(t *testing.T) {
	fields := manyFields(1, impl.KindDict)
	tables := []impl.Table{tableOf(2, text("x"), text("y")), tableOf(1, text("z"))}
	choices := script(impl.EvSend, 1, impl.EvTick, 0, impl.EvData, 0, impl.EvData, 1, impl.EvDataCopy, 2, impl.EvDataSpoil, 1, impl.EvReply, 0, impl.EvReplyDrop, 1,
		impl.EvPoll, 0, impl.EvCrashSender, 0, impl.EvCrashReceiver, 0, impl.EvRound, 0)
	for _, lead := range [][]impl.Event{
		script(impl.EvSend, 0, impl.EvSend, 1, impl.EvTick, 0),
		script(impl.EvSend, 0, impl.EvRound, 0, impl.EvSend, 1, impl.EvTick, 0, impl.EvDataCopy, 0),
	} {
		listsOver(choices, 3, func(events []impl.Event) {
			all := behind(lead, events)
			r := checkScript(t, fields, tables, all)
			checkAllDelivered(t, short(events), fields, tables, all, r)
		})
	}
}

// P14: tables of very many packets, behind full ways, losses and crashes.
func TestScriptsOfGreatTables(t *testing.T) {
	fields, table := greatTable()
	tables := copyTables([]impl.Table{table, table, table})
	tables[1].Cells[0].Text = []byte("also")
	for what, events := range map[string][]impl.Event{
		"straight":          manySends(3),
		"full ways":         behind(manySends(3), times(60, impl.EvTick, 0), times(110, impl.EvDataCopy, 99)),
		"crash of sender":   behind(manySends(3), rounds(20), script(impl.EvCrashSender, 0)),
		"crash of receiver": behind(manySends(3), rounds(25), script(impl.EvCrashReceiver, 0)),
		"all is spoilt":     behind(manySends(3), rounds(4), script(impl.EvTick, 0, impl.EvDataSpoil, 0, impl.EvDataSpoil, 1, impl.EvDataSpoil, 2, impl.EvDataSpoil, 3)),
		"crashes of both":   behind(manySends(3), times(40, impl.EvTick, 0), script(impl.EvCrashSender, 0, impl.EvTick, 0, impl.EvCrashReceiver, 0, impl.EvTick, 0)),
	} {
		r := checkScript(t, fields, tables, events)
		checkAllDelivered(t, what, fields, tables, events, r)
	}
}

// P12, P13, P14: both sides crash at every place of a straight script, the one behind the other or apart.
func TestScriptsWithCrashesEverywhere(t *testing.T) {
	fields := manyFields(2, impl.KindDict)
	var tables []impl.Table
	for i := range 3 {
		tables = append(tables, tableOf(2, text("x"), text(string(rune('a'+i))), null, text("y")))
	}
	straight := behind(manySends(2), script(impl.EvTick, 0), times(4, impl.EvData, 0), times(2, impl.EvReply, 1), script(impl.EvPoll, 0, impl.EvSend, 2, impl.EvTick, 0),
		times(2, impl.EvData, 0), times(3, impl.EvReply, 0), script(impl.EvPoll, 0), rounds(4))
	for first := range straight {
		for second := range straight {
			var events []impl.Event
			for place, e := range straight {
				if place == first {
					events = append(events, ev(impl.EvCrashReceiver, 0))
				}
				if place == second {
					events = append(events, ev(impl.EvCrashSender, 0))
				}
				events = append(events, e)
			}
			r := checkScript(t, fields, tables, events)
			checkAllDelivered(t, fmt.Sprintf("crashes at %d and %d", first, second), fields, tables, events, r)
		}
	}
}

// The lists that are given have room behind them, in which nothing comes to stand.
func TestScriptsLeaveArgumentsAsTheyWere(t *testing.T) {
	below := diceOf(77)
	fields := append(mixedFields(), field("more", impl.KindInt))
	tables := thrownTables(below, fields[:5], impl.MaxTables)
	events := append(rules()[1].script(below, 9, 300), times(9, impl.EvPoll, 5)...)
	tablesWere, eventsWere := copyTables(tables), slices.Clone(events)
	r := checkScript(t, fields[:5], tables[:9], events[:300])
	if !sameTables(tables, tablesWere) || !slices.Equal(events, eventsWere) || string(fields[5].Name) != "more" {
		t.Error("behind an argument was written")
	}
	if len(r.Delivered) == 0 {
		t.Error("nothing is delivered")
	}
	for i := range r.Delivered {
		for j := range r.Delivered[i].Cells {
			fill(r.Delivered[i].Cells[j].Text)
			r.Delivered[i].Cells[j].N = 99
		}
	}
	if !sameTables(tables, tablesWere) {
		t.Error("an answer is memory of an argument")
	}
}

func TestWorldConstants(t *testing.T) {
	kinds := []int{impl.EvSend, impl.EvTick, impl.EvData, impl.EvDataCopy, impl.EvDataDrop, impl.EvDataSpoil, impl.EvReply, impl.EvReplyCopy, impl.EvReplyDrop,
		impl.EvReplySpoil, impl.EvPoll, impl.EvCrashSender, impl.EvCrashReceiver, impl.EvRound}
	for i, kind := range kinds {
		if kind != i {
			t.Errorf("the kind %d is %d", i, kind)
		}
	}
	if impl.MaxEvents != 2000 || impl.MaxFlight != 100 {
		t.Error("MaxEvents, MaxFlight")
	}
}
