package theorems

import (
	"math/rand"
	"reflect"
	"testing"

	"proclitic/aenc"
	"proclitic/api"
	"proclitic/ares"
	"proclitic/born"
	"proclitic/canon"
	"proclitic/cast"
	"proclitic/desk"
	"proclitic/pcomp"
	"proclitic/pdec"
	"proclitic/penc"
	"proclitic/pread"
	"proclitic/prule"
	"proclitic/pval"
	"proclitic/rec"
)

// otherwise writes a message in another way that says the same: padded, packed or not, in another order, twice.
func otherwise(r *rand.Rand, s api.PSchema, name string, m api.Msg) string {
	p, _ := prule.Message(s, name)
	var queues [][]string
	for _, x := range m.Fields {
		f, _ := prule.Field(p, x.Num)
		queues = append(queues, records(r, s, f, x.L))
	}
	l, _ := rec.Split(m.Rest)
	var rest []string
	for _, x := range l {
		rest = append(rest, x.Raw)
	}
	queues = append(queues, rest)
	// What stands in one queue stays in its order.
	out := ""
	for {
		var left []int
		for i, q := range queues {
			if len(q) > 0 {
				left = append(left, i)
			}
		}
		if len(left) == 0 {
			return out
		}
		i := one(r, left...)
		out += queues[i][0]
		queues[i] = queues[i][1:]
	}
}

// records writes a field's values.
func records(r *rand.Rand, s api.PSchema, f api.PField, l []api.Val) []string {
	var out []string
	switch {
	case f.Label == api.Mapped:
		for i := 0; i < len(l); i += 2 {
			key, val := plainRecord(r, s, 1, f.Key, "", l[i]), plainRecord(r, s, 2, f.Kind, f.Type, l[i+1])
			entry := one(r, key+val, val+key, key+plainRecord(r, s, 3, api.KInt32, "", api.Val{N: 5})+val)
			out = append(out, rec.Put(api.Record{Num: f.Num, Wire: api.WireText, S: entry}))
			if r.Intn(4) == 0 {
				out = append([]string{rec.Put(api.Record{Num: f.Num, Wire: api.WireText, S: key})}, out...)
			}
		}
	case f.Label == api.Repeated && cast.Wire(f.Kind) != api.WireText:
		for len(l) > 0 {
			n := 1 + r.Intn(len(l))
			if r.Intn(2) == 0 {
				text := ""
				for _, v := range l[:n] {
					text += plainRecord(r, s, 1, f.Kind, "", v)[1:]
				}
				out = append(out, rec.Put(api.Record{Num: f.Num, Wire: api.WireText, S: text}))
			} else {
				for _, v := range l[:n] {
					out = append(out, plainRecord(r, s, f.Num, f.Kind, "", v))
				}
			}
			l = l[n:]
		}
	default:
		for _, v := range l {
			out = append(out, singleRecords(r, s, f, v)...)
		}
	}
	return out
}

// singleRecords writes a value; one that may stand but once is written twice at times.
func singleRecords(r *rand.Rand, s api.PSchema, f api.PField, v api.Val) []string {
	if f.Label == api.Repeated || r.Intn(2) == 0 {
		return []string{plainRecord(r, s, f.Num, f.Kind, f.Type, v)}
	}
	if f.Kind != api.KMessage {
		another := value(r, s, f.Kind, f.Type, 9)
		return []string{plainRecord(r, s, f.Num, f.Kind, f.Type, another), plainRecord(r, s, f.Num, f.Kind, f.Type, v)}
	}
	l, _ := rec.Split(otherwise(r, s, f.Type, v.M))
	at := r.Intn(len(l) + 1)
	var out []string
	for _, part := range [][]api.Record{l[:at], l[at:]} {
		out = append(out, rec.Put(api.Record{Num: f.Num, Wire: api.WireText, S: rec.Join(part)}))
	}
	return out
}

func plainRecord(r *rand.Rand, s api.PSchema, num, kind int, name string, v api.Val) string {
	x := api.Record{Num: num, Wire: cast.Wire(kind), N: cast.To(kind, v.N), S: v.S}
	if kind == api.KMessage {
		x.S = otherwise(r, s, name, v.M)
	}
	raw := rec.Put(x)
	if x.Wire == api.WireVarint && len(raw) < 8 && r.Intn(3) == 0 {
		raw = raw[:len(raw)-1] + string([]byte{raw[len(raw)-1] | 0x80}) + "\x00"
	}
	return raw
}

// W2: of other bytes that say the same the known part is the reader's view of it.
func TestOtherBytes(t *testing.T) {
	r := rand.New(rand.NewSource(31))
	read := 0
	for range 2500 {
		o, n := protoPair(t, r)
		if !pcomp.Reads(o, n, "M0", "M0") {
			continue
		}
		m := message(r, o, "M0", 2)
		b := otherwise(r, o, "M0", m)
		same, e := pdec.Decode(o, "M0", []byte(b))
		if e == api.ErrLimit {
			continue
		}
		if e != api.OK || !pval.Same(same, m) {
			t.Fatalf("%x: %v %d, not %v", b, same, e, m)
		}
		read++
		view, e := pread.Read(o, n, "M0", "M0", m)
		if e == api.ErrLimit {
			continue
		}
		got, e2 := pdec.Decode(n, "M0", []byte(b))
		if e != api.OK || e2 != api.OK || !pval.Same(known(got), known(view)) {
			t.Fatalf("%x: %v %d, not %v %d", b, got, e2, view, e)
		}
	}
	if read < 1000 {
		t.Errorf("only %d are read", read)
	}
}

// ask asks a desk; what fails must have changed nothing, and an answer beside an error is none.
func ask(t *testing.T, d *desk.Desk, r api.Request) api.Reply {
	t.Helper()
	before := d.Copy()
	reply := d.Ask(r)
	if reply.Err != api.OK {
		if len(reply.Bytes) > 0 || reply.Text != "" {
			t.Fatalf("%d: an answer beside an error: %v", r.Kind, reply)
		}
		if !reflect.DeepEqual(before.Names(), d.Names()) {
			t.Fatalf("%d: an error that changes the desk", r.Kind)
		}
	}
	return reply
}

// W1: each value, in whatever blocks it is written, is transcoded to the one text of its resolution.
func TestTranscoding(t *testing.T) {
	r := rand.New(rand.NewSource(32))
	done := 0
	for range 3000 {
		w, text := avroSchema(r)
		rd, readerText := changedText(r, text)
		d := desk.New()
		if ask(t, d, api.Request{Kind: api.AskAvro, Name: "w", Text: text}).Err != api.OK || ask(t, d, api.Request{Kind: api.AskAvro, Name: "r", Text: readerText}).Err != api.OK {
			continue
		}
		if v, ok := d.Print("w"); !ok || v != canon.Print(w) {
			t.Fatalf("%s: %x", text, v)
		}
		says := ask(t, d, api.Request{Kind: api.AskCheck, Name: "w", Other: "r"}).Err
		has := born.Has(w)
		if !has[0] {
			continue
		}
		v := avroValue(r, w, has, 0, 0)
		got := ask(t, d, api.Request{Kind: api.AskTranscode, Name: "w", Other: "r", Bytes: []byte(inBlocks(r, w, 0, v))})
		if says != api.OK {
			if got.Err != api.ErrCompat {
				t.Fatalf("%s as %s: %d", text, readerText, got.Err)
			}
			continue
		}
		x, e := ares.Resolve(w, rd, 0, 0, v)
		want, e2 := aenc.Encode(rd, 0, x)
		if e != api.OK || e2 != api.OK || got.Err != api.OK || string(got.Bytes) != string(want) {
			t.Fatalf("%s as %s: %x %d, not %x", text, readerText, got.Bytes, got.Err, want)
		}
		done++
	}
	if done < 1000 {
		t.Errorf("only %d", done)
	}
}

// W5: each request ends with an answer or one error; what fails changes nothing.
func TestRequests(t *testing.T) {
	r := rand.New(rand.NewSource(33))
	d := desk.New()
	errs, good := map[api.Errno]int{}, map[int]int{}
	for range 20000 {
		name := func() string { return one(r, "a", "b", "c", "d", "e", "f", "g", "h", "i", "j") }
		q := api.Request{Kind: r.Intn(12), Name: name(), Other: name(), Type: one(r, "M0", "M1", "X"), Type2: "M0"}
		switch q.Kind {
		case api.AskProto:
			q.Sources = []api.Source{{Name: "s", Text: protoText(r, words)}}
		case api.AskAvro:
			_, q.Text = avroSchema(r)
		case api.AskProject, api.AskMerge:
			q.Text = one(r, "", "f1", "f1,f2", "f3.f1", "f9")
		case api.AskTell:
			q.Text = one(r, "{}", `{"f1":1}`, "null", "1", `"1"`, "[]", "{", `{"f2":"a"}`)
		case api.AskForget:
			if r.Intn(4) > 0 {
				continue
			}
		}
		q.Bytes = []byte(one(r, "", "\x00", "\x01", "\x08\x01", "\x12\x01a", "\x02\x02", "\xff"))
		q.More = []byte(one(r, "", "\x08\x02", "\xff"))
		reply := ask(t, d, q)
		errs[reply.Err]++
		if reply.Err == api.OK {
			good[q.Kind]++
		}
		if len(d.Names()) > api.MaxTrees {
			t.Fatalf("%v", d.Names())
		}
	}
	if len(good) < 10 || len(errs) < 7 {
		t.Errorf("%v %v", good, errs)
	}
}

// P17.1, P16.1: a message with all that is not known lies in its order.
func TestRestStays(t *testing.T) {
	r := rand.New(rand.NewSource(34))
	for range 500 {
		s, _ := protoPair(t, r)
		m := message(r, s, "M0", 3)
		b, e := penc.Encode(s, "M0", m)
		if e != api.OK {
			continue
		}
		none, e := pdec.Decode(api.PSchema{Messages: []api.PMessage{{Name: "N"}}}, "N", b)
		if e != api.OK || none.Rest != string(b) || len(none.Fields) > 0 {
			t.Fatalf("%x: %v %d", b, none, e)
		}
	}
}
