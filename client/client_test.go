package client_test

import (
	"bytes"
	"errors"
	"slices"
	"strconv"
	"strings"
	"testing"

	"courier/api"
	"courier/blob"
	"courier/chain"
	"courier/client"
	"courier/code"
	"courier/curve"
	"courier/desc"
	"courier/disk"
	"courier/download"
	"courier/frame"
	"courier/pace"
	"courier/ratchet"
	"courier/slots"
	"courier/table"
	"courier/upload"
)

var (
	secret = api.Key{1, 1}
	seedA  = api.Key{2, 2}
	seedB  = api.Key{3, 3}
	fileID = api.Key{4, 4}
	otherA = curve.Public(chain.Draw(seedA, 0))
	otherB = curve.Public(chain.Draw(seedB, 0))
)

func ramp(n int) []byte {
	b := make([]byte, n)
	for i := range b {
		b[i] = byte(i%249 + 1)
	}
	return b
}

// pair are two clients and their disks.
func pair(t *testing.T) (a, b *client.Client, da, db *disk.Disk) {
	t.Helper()
	da, db = disk.New(api.MaxSecs), disk.New(api.MaxSecs)
	a, err := client.Create(da, true, secret, seedA, otherB)
	if err != nil {
		t.Fatal(err)
	}
	b, err = client.Create(db, false, secret, seedB, otherA)
	if err != nil {
		t.Fatal(err)
	}
	return a, b, da, db
}

// encoded is a state by the words of the chapter.
func encoded(r *ratchet.Ratchet, b *table.Table, packets ...[]byte) []byte {
	var w code.Writer
	w.List(r.Bytes())
	w.List(b.Bytes())
	w.U8(len(packets))
	for _, p := range packets {
		w.List(p)
	}
	return w.Bytes()
}

// stored is the state that the disk contains; what the client tells must be the same, and so must what is opened.
func stored(t *testing.T, c *client.Client, d *disk.Disk) []byte {
	t.Helper()
	s, err := slots.Open(d)
	if err != nil {
		t.Fatal(err)
	}
	b, err := s.Load()
	if err != nil || !bytes.Equal(b, c.Bytes()) {
		t.Error("the state is not on the disk:", err)
	}
	again, err := client.Open(d)
	if err != nil || !bytes.Equal(again.Bytes(), b) {
		t.Error("what is opened is another client:", err)
	}
	return b
}

// saves is how often the state was saved.
func saves(t *testing.T, d *disk.Disk) int {
	t.Helper()
	s, err := slots.Open(d)
	if err != nil {
		t.Fatal(err)
	}
	return s.Seq()
}

// unchanged wants an error that changes nothing, on the disk or off it.
func unchanged(t *testing.T, c *client.Client, d *disk.Disk, want error, act func() error) {
	t.Helper()
	before, image, n := c.Bytes(), d.Image(), saves(t, d)
	err := act()
	at, ok := err.(*api.At)
	if err != want && !(ok && at.Err == want) {
		t.Errorf("%v, want %v", err, want)
	}
	if !bytes.Equal(c.Bytes(), before) || !bytes.Equal(d.Image(), image) || saves(t, d) != n || c.Closed() {
		t.Errorf("what ended with %v changed something", err)
	}
}

func must(t *testing.T, err error) {
	t.Helper()
	if err != nil {
		t.Fatal(err)
	}
}

func out(t *testing.T, c *client.Client) []byte {
	t.Helper()
	p, err := c.Out()
	must(t, err)
	return p
}

// text sends a text from one to the other.
func text(t *testing.T, from, to *client.Client, s string) {
	t.Helper()
	must(t, from.SendText(s))
	got, err := to.Recv(out(t, from))
	if err != nil || got != (api.Got{Kind: api.Text, Text: s}) {
		t.Fatal(got, err)
	}
}

func sendFile(t *testing.T, c *client.Client, file []byte, chunk int) int {
	t.Helper()
	id, err := c.SendFile(file, chunk, fileID)
	must(t, err)
	return id
}

// round lets one request be served and answered, and tells whether there was one.
func round(t *testing.T, c *client.Client, s *blob.Store) bool {
	t.Helper()
	q, err := c.Ask()
	if err == api.ErrNone {
		return false
	}
	must(t, err)
	must(t, c.Answer(frame.Serve(s, q)))
	return true
}

func rounds(t *testing.T, c *client.Client, s *blob.Store) (n int) {
	t.Helper()
	for round(t, c, s) {
		n++
		if n > 2000 {
			t.Fatal("it does not end")
		}
	}
	return n
}

func move(t *testing.T, c *client.Client, want api.Move) {
	t.Helper()
	i := slices.IndexFunc(c.Moves(), func(m api.Move) bool { return m.ID == want.ID })
	if i < 0 || c.Moves()[i] != want {
		t.Error(c.Moves(), "want", want)
	}
}

func TestCreate(t *testing.T) {
	a, b, da, db := pair(t)
	if !bytes.Equal(stored(t, a, da), encoded(ratchet.First(secret, seedA, otherB), &table.Table{})) {
		t.Error("the first side")
	}
	if !bytes.Equal(stored(t, b, db), encoded(ratchet.Second(secret, seedB), &table.Table{})) {
		t.Error("the second side")
	}
	if a.Waiting() != 0 || len(a.Moves()) != 0 || a.Closed() || saves(t, da) != 1 {
		t.Error("a new client is not new")
	}
	if _, err := a.Ask(); err != api.ErrNone {
		t.Error("Ask:", err)
	}
	again, err := client.Create(da, false, secret, seedB, otherA)
	if err != nil || !bytes.Equal(stored(t, again, da), stored(t, b, db)) || saves(t, da) != 2 {
		t.Error("a new one in the place of another:", err)
	}
}

func TestCreateFails(t *testing.T) {
	d := disk.New(3)
	d.Write(0, bytes.Repeat([]byte{1}, api.Sector))
	d.Sync()
	for name, c := range map[string]struct {
		d    *disk.Disk
		want error
	}{"no store": {d, api.ErrStore}, "no room": {disk.New(3), api.ErrFull}, "one sector": {disk.New(1), api.ErrFull}} {
		if got, err := client.Create(c.d, true, secret, seedA, otherB); got != nil || err != c.want {
			t.Error(name, got, err)
		}
	}
	for n := range 100 {
		d := disk.New(50)
		d.Fuse(n)
		c, err := client.Create(d, true, secret, seedA, otherB)
		if err == nil {
			if n == 0 || c == nil {
				t.Error(n)
			}
			return
		}
		if c != nil || err != api.ErrOff {
			t.Fatal(n, c, err)
		}
	}
	t.Error("Create needs too much power")
}

// diskOf has that state.
func diskOf(t *testing.T, b []byte) *disk.Disk {
	t.Helper()
	d := disk.New(api.MaxSecs)
	s, err := slots.Open(d)
	must(t, err)
	must(t, s.Save(b))
	return d
}

func TestOpenOfWrongStates(t *testing.T) {
	r, none := ratchet.First(secret, seedA, otherB), &table.Table{}
	whole := encoded(r, none, []byte{1, 2})
	n := len(r.Bytes())
	refused := func(name string, b []byte, pos int, want error) {
		t.Helper()
		c, err := client.Open(diskOf(t, b))
		at, ok := err.(*api.At)
		if pos < 0 {
			ok, at = err == want, &api.At{Pos: pos, Err: want}
		}
		if c != nil || !ok || at.Pos != pos || at.Err != want {
			t.Error(name, c, err, "want", want, pos)
		}
	}
	places := []int{0, 4 + n, 4 + n + 4 + 5, 4 + n + 4 + 5 + 1, len(whole)}
	for i, from := range places[:4] {
		for k := from; k < places[i+1]; k++ {
			refused("too few bytes", whole[:k], from, api.ErrShort)
		}
	}
	refused("too many bytes", append(bytes.Clone(whole), 0), len(whole), api.ErrTrail)
	many := make([][]byte, 18)
	if c, err := client.Open(diskOf(t, encoded(r, none, many...))); c != nil || !errors.Is(err, api.ErrRange) {
		t.Error("too many packets:", err)
	}
	refused("a long packet", encoded(r, none, make([]byte, 401)), places[3], api.ErrRange)
	if c, err := client.Open(diskOf(t, encoded(r, none, many[:17]...))); err != nil || c.Waiting() != 17 {
		t.Error("most packets:", err)
	}
	if _, err := client.Open(diskOf(t, encoded(r, none, make([]byte, 400)))); err != nil {
		t.Error("the longest packet:", err)
	}
	var w code.Writer
	w.List(make([]byte, 5))
	w.List(none.Bytes())
	w.U8(0)
	refused("a ratchet", w.Bytes(), 0, api.ErrShort)
	w = code.Writer{}
	w.List(r.Bytes())
	w.List([]byte{0, 0, 0, 0, 0})
	w.U8(0)
	refused("a table", w.Bytes(), -1, api.ErrForm)
	w = code.Writer{}
	w.List(make([]byte, 5))
	w.List([]byte{0, 0, 0, 0, 0})
	w.U8(0)
	refused("a ratchet ahead of a table", w.Bytes(), 0, api.ErrShort)
	w = code.Writer{}
	w.U32(30001)
	refused("a long list", w.Bytes(), 0, api.ErrRange)
	w = code.Writer{}
	w.U32(30000)
	refused("the longest list", w.Bytes(), 0, api.ErrShort)
	w = code.Writer{}
	w.List(nil)
	w.U32(30001)
	refused("a second long list", w.Bytes(), 4, api.ErrRange)
	w = code.Writer{}
	w.List(nil)
	w.List(nil)
	w.U8(0)
	refused("nothing in the lists", w.Bytes(), 0, api.ErrShort)
}

func TestOpenOfWrongDisks(t *testing.T) {
	if c, err := client.Open(disk.New(20)); c != nil || !errors.Is(err, api.ErrShort) {
		t.Error("nothing was saved:", c, err)
	}
	d := disk.New(20)
	d.Write(0, bytes.Repeat([]byte{1}, api.Sector))
	d.Sync()
	if c, err := client.Open(d); c != nil || err != api.ErrStore {
		t.Error("no store:", c, err)
	}
	d.Fuse(0)
	d.Sync()
	if c, err := client.Open(d); c != nil || err != api.ErrOff {
		t.Error("no power:", c, err)
	}
}

func TestTexts(t *testing.T) {
	a, b, da, db := pair(t)
	model := ratchet.First(secret, seedA, otherB)
	must(t, a.SendText("one"))
	first, _ := model.Seal([]byte("\x01one"))
	must(t, a.SendText(""))
	second, _ := model.Seal([]byte{1})
	if !bytes.Equal(stored(t, a, da), encoded(model, &table.Table{}, first, second)) || a.Waiting() != 2 {
		t.Error("two texts wait:", a.Waiting())
	}
	if p := out(t, a); !bytes.Equal(p, first) {
		t.Error(p)
	}
	if !bytes.Equal(stored(t, a, da), encoded(model, &table.Table{}, second)) || a.Waiting() != 1 {
		t.Error("one text waits:", a.Waiting())
	}
	if p := out(t, a); !bytes.Equal(p, second) {
		t.Error(p)
	}
	unchanged(t, a, da, api.ErrNone, func() error { _, err := a.Out(); return err })
	other := ratchet.Second(secret, seedB)
	for _, c := range []struct {
		p    []byte
		text string
	}{{second, ""}, {first, "one"}} {
		got, err := b.Recv(c.p)
		if err != nil || got != (api.Got{Kind: api.Text, Text: c.text}) {
			t.Error(got, err)
		}
		other.Open(c.p)
		if !bytes.Equal(stored(t, b, db), encoded(other, &table.Table{})) {
			t.Error("what was received is not stored")
		}
	}
	unchanged(t, b, db, api.ErrOld, func() error { _, err := b.Recv(first); return err })
}

func TestSendTextErrors(t *testing.T) {
	a, b, da, db := pair(t)
	long := strings.Repeat("x", 201)
	unchanged(t, a, da, api.ErrRange, func() error { return a.SendText(long) })
	unchanged(t, b, db, api.ErrKey, func() error { return b.SendText("x") })
	unchanged(t, b, db, api.ErrRange, func() error { return b.SendText(long) })
	text(t, a, b, long[:200])
	for range api.MaxOut {
		must(t, a.SendText("x"))
	}
	unchanged(t, a, da, api.ErrLimit, func() error { return a.SendText("x") })
	unchanged(t, a, da, api.ErrRange, func() error { return a.SendText(long) })
	out(t, a)
	must(t, a.SendText("x"))
	// No more may wait, even where there is no key.
	full := make([][]byte, api.MaxOut)
	c, err := client.Open(diskOf(t, encoded(ratchet.Second(secret, seedB), &table.Table{}, full...)))
	must(t, err)
	if err := c.SendText("x"); err != api.ErrLimit {
		t.Error(err)
	}
}

// sealed are packets to the second side.
func sealed(t *testing.T, l ...[]byte) (packets [][]byte) {
	t.Helper()
	r := ratchet.First(secret, seedA, otherB)
	for _, b := range l {
		p, err := r.Seal(b)
		must(t, err)
		packets = append(packets, p)
	}
	return packets
}

func TestRecvErrors(t *testing.T) {
	_, b, _, db := pair(t)
	d, _ := desc.Make(5, ramp(30), 10, fileID)
	wrong := d
	wrong.Size = 601
	l := sealed(t, nil, []byte{0}, []byte{3, 1}, append([]byte{1}, make([]byte, 201)...), []byte{2}, append([]byte{2}, desc.Bytes(wrong)...),
		append([]byte{2}, desc.Bytes(d)[:107]...), append(append([]byte{2}, desc.Bytes(d)...), 0), []byte{255}, append([]byte{1}, make([]byte, 200)...))
	recv := func(p []byte) func() error {
		return func() error {
			got, err := b.Recv(p)
			if err != nil && got != (api.Got{}) {
				t.Error(got)
			}
			return err
		}
	}
	for _, p := range l[:9] {
		unchanged(t, b, db, api.ErrForm, recv(p))
		unchanged(t, b, db, api.ErrForm, recv(p)) // it may come again
	}
	must(t, recv(l[9])())
	unchanged(t, b, db, api.ErrShort, recv(nil))
	unchanged(t, b, db, api.ErrShort, recv(l[0][:39]))
	unchanged(t, b, db, api.ErrOld, recv(l[9]))
	bent := bytes.Clone(l[3])
	bent[70] ^= 1
	unchanged(t, b, db, api.ErrTag, recv(bent))
}

func TestRecvOfAFile(t *testing.T) {
	_, b, _, db := pair(t)
	d, _ := desc.Make(5, ramp(30), 10, fileID)
	var l [][]byte
	for range api.MaxMoves + 1 {
		l = append(l, append([]byte{2}, desc.Bytes(d)...))
	}
	packets := sealed(t, l...)
	other, rows := ratchet.Second(secret, seedB), &table.Table{}
	for i, p := range packets[:api.MaxMoves] {
		got, err := b.Recv(p)
		if err != nil || got != (api.Got{Kind: api.File, ID: i + 1}) {
			t.Fatal(got, err)
		}
		other.Open(p)
		rows.Add(table.Row{ID: i + 1, Kind: api.Down, State: api.Going, Desc: d, Down: download.New(d)})
		if !bytes.Equal(stored(t, b, db), encoded(other, rows)) {
			t.Error("the file is not stored")
		}
		move(t, b, api.Move{ID: i + 1, Kind: api.Down, State: api.Going, Size: 30, All: 3})
	}
	unchanged(t, b, db, api.ErrLimit, func() error { _, err := b.Recv(packets[api.MaxMoves]); return err })
	must(t, b.Cancel(3))
	must(t, b.Forget(3))
	got, err := b.Recv(packets[api.MaxMoves])
	if err != nil || got.ID != api.MaxMoves+1 {
		t.Error(got, err)
	}
}

func TestSendFile(t *testing.T) {
	a, b, da, db := pair(t)
	for _, c := range []struct{ size, chunk int }{{601, 10}, {10, 0}, {10, 65}, {10, -1}} {
		unchanged(t, a, da, api.ErrRange, func() error {
			id, err := a.SendFile(make([]byte, c.size), c.chunk, fileID)
			if id != 0 {
				t.Error(id)
			}
			return err
		})
	}
	unchanged(t, b, db, api.ErrKey, func() error { _, err := b.SendFile(nil, 5, fileID); return err })
	unchanged(t, b, db, api.ErrRange, func() error { _, err := b.SendFile(nil, 65, fileID); return err })
	rows := &table.Table{}
	for id := 1; id <= api.MaxMoves; id++ {
		file := ramp(30)
		if got := sendFile(t, a, file, 10); got != id {
			t.Error(got, id)
		}
		clear(file)
		d, b := desc.Make(uint32(id), ramp(30), 10, fileID)
		rows.Add(table.Row{ID: id, Kind: api.Up, State: api.Going, Desc: d, Blob: b})
		if !bytes.Equal(stored(t, a, da), encoded(ratchet.First(secret, seedA, otherB), rows)) {
			t.Error("the file is not stored")
		}
		move(t, a, api.Move{ID: id, Kind: api.Up, State: api.Going, Size: 30, All: len(b)})
	}
	unchanged(t, a, da, api.ErrLimit, func() error { _, err := a.SendFile(nil, 5, fileID); return err })
	c, err := client.Open(diskOf(t, encoded(ratchet.Second(secret, seedB), rows)))
	must(t, err)
	if _, err := c.SendFile(nil, 5, fileID); err != api.ErrKey {
		t.Error("the key comes ahead of the table:", err)
	}
	unchanged(t, a, da, api.ErrRange, func() error { _, err := a.SendFile(nil, 0, fileID); return err })
}

func TestATransfer(t *testing.T) {
	for _, size := range []int{0, 1, 63, 64, 65, 600} {
		for _, chunk := range []int{1, 7, 64} {
			size := min(size, 300*chunk) // the blob must fit on the disk
			a, b, da, db := pair(t)
			s := blob.New(api.MaxBlob, 1000)
			file := ramp(size)
			sendFile(t, a, file, chunk)
			d, whole := desc.Make(1, file, chunk, fileID)
			if n, want := rounds(t, a, s), 3+(len(whole)+199)/200; n != want {
				t.Error(size, chunk, n, "rounds up, want", want)
			}
			move(t, a, api.Move{ID: 1, Kind: api.Up, State: api.Done, Size: size})
			stored(t, a, da)
			if a.Waiting() != 1 {
				t.Fatal("the file is not described")
			}
			p := out(t, a)
			r := ratchet.Second(secret, seedB)
			if got, err := r.Open(p); err != nil || !bytes.Equal(got, append([]byte{2}, desc.Bytes(d)...)) {
				t.Error(got, err)
			}
			got, err := b.Recv(p)
			if err != nil || got != (api.Got{Kind: api.File, ID: 1}) {
				t.Fatal(got, err)
			}
			all := max(1, (size+chunk-1)/chunk)
			if n, want := rounds(t, b, s), (32*all+199)/200+all; n != want {
				t.Error(size, chunk, n, "rounds down, want", want)
			}
			move(t, b, api.Move{ID: 1, Kind: api.Down, State: api.Done, Size: size})
			got2, err := b.Read(1)
			if err != nil || !bytes.Equal(got2, file) {
				t.Error(size, chunk, got2, err)
			}
			rows := &table.Table{}
			rows.Add(table.Row{ID: 1, Kind: api.Down, State: api.Done, Desc: api.Desc{ID: 1, Size: uint32(size), Chunk: uint32(chunk)}, Blob: file})
			if !bytes.Equal(stored(t, b, db), encoded(r, rows)) {
				t.Error("what is stored after the end")
			}
		}
	}
}

func TestAskIsInTheOrderOfRows(t *testing.T) {
	a, b, _, _ := pair(t)
	text(t, a, b, "x")
	text(t, b, a, "y")
	for range 3 {
		sendFile(t, a, ramp(30), 10)
	}
	asks := func(c *client.Client, want int) {
		t.Helper()
		q, err := c.Ask()
		if want == 0 {
			if err != api.ErrNone || len(q) != 0 {
				t.Error(q, err)
			}
			return
		}
		d, _ := desc.Make(uint32(want), ramp(30), 10, fileID)
		if err != nil || !bytes.Equal(q, frame.Request(api.Request{Op: api.OpStat, Blob: d.Blob})) {
			t.Error("it is not row", want, "that asks:", q, err)
		}
	}
	fails := frame.Response(api.Response{Code: 7})
	asks(a, 1)
	asks(a, 1)
	must(t, a.Pause(1))
	asks(a, 2)
	must(t, a.Answer(fails)) // row 2 waits
	asks(a, 3)
	must(t, a.Resume(1))
	asks(a, 1)
	must(t, a.Answer(fails))
	must(t, a.Cancel(3))
	asks(a, 0)
	must(t, a.Tick())
	asks(a, 1)
	for range api.MaxOut - 1 {
		must(t, a.SendText("x"))
	}
	asks(a, 1)
	must(t, a.SendText("x"))
	asks(a, 0)
	// A download asks all the same.
	d, _ := desc.Make(9, ramp(30), 10, fileID)
	r := ratchet.First(secret, seedA, otherB)
	rows := &table.Table{}
	up, bytesUp := desc.Make(1, ramp(5), 5, fileID)
	rows.Add(table.Row{ID: 1, Kind: api.Up, State: api.Going, Desc: up, Blob: bytesUp})
	rows.Add(table.Row{ID: 2, Kind: api.Down, State: api.Going, Desc: d, Down: download.New(d)})
	c, err := client.Open(diskOf(t, encoded(r, rows, make([][]byte, api.MaxOut)...)))
	must(t, err)
	if q, err := c.Ask(); err != nil || !bytes.Equal(q, frame.Request(api.Request{Op: api.OpGet, Blob: d.Blob, N: 96})) {
		t.Error(q, err)
	}
}

func TestOutstanding(t *testing.T) {
	a, _, da, _ := pair(t)
	s := blob.New(api.MaxBlob, 100)
	ok := frame.Response(api.Response{Code: 14})
	answer := func() error { return a.Answer(ok) }
	unchanged(t, a, da, api.ErrState, answer)
	sendFile(t, a, ramp(30), 10)
	unchanged(t, a, da, api.ErrState, answer)
	_, err := a.Ask()
	must(t, err)
	must(t, a.SendText("x")) // anything may come between
	must(t, a.Tick())
	must(t, answer())
	unchanged(t, a, da, api.ErrState, answer)
	// A request that there is not any more is outstanding no more.
	_, err = a.Ask()
	must(t, err)
	must(t, a.Pause(1))
	if _, err := a.Ask(); err != api.ErrNone {
		t.Error(err)
	}
	must(t, a.Resume(1))
	unchanged(t, a, da, api.ErrState, answer)
	// What is answered while the row rests is lost.
	_, err = a.Ask()
	must(t, err)
	must(t, a.Pause(1))
	unchanged(t, a, da, nil, answer)
	must(t, a.Resume(1))
	unchanged(t, a, da, api.ErrState, answer)
	// The row may be gone, or have ended.
	_, err = a.Ask()
	must(t, err)
	must(t, a.Pause(1))
	must(t, a.Resume(1))
	must(t, answer())
	must(t, a.Tick())
	_, err = a.Ask()
	must(t, err)
	must(t, a.Cancel(1))
	unchanged(t, a, da, nil, answer)
	sendFile(t, a, ramp(30), 10)
	_, err = a.Ask()
	must(t, err)
	must(t, a.Cancel(2))
	must(t, a.Forget(2))
	unchanged(t, a, da, nil, answer)
	// It is not saved.
	sendFile(t, a, ramp(30), 10)
	_, err = a.Ask()
	must(t, err)
	again, err := client.Open(da)
	must(t, err)
	if err := again.Answer(ok); err != api.ErrState {
		t.Error(err)
	}
	round(t, again, s)
}

func TestAnswersThatFail(t *testing.T) {
	a, _, da, _ := pair(t)
	sendFile(t, a, ramp(30), 10)
	d, whole := desc.Make(1, ramp(30), 10, fileID)
	up := upload.Up{}
	for k := 1; k <= 11; k++ {
		for n := 0; ; n++ {
			if _, err := a.Ask(); err == nil {
				break
			}
			if n > 64 {
				t.Fatal("it waits too long")
			}
			must(t, a.Tick())
			up.Pace.Tick()
		}
		wrong := [][]byte{nil, {20}, {0, 1}, frame.Response(api.Response{Code: 6}), append(frame.Response(api.Response{}), 1)}[k%5]
		must(t, a.Answer(wrong))
		up.Answer(len(whole), api.Response{Code: 6})
		rows := &table.Table{}
		row := table.Row{ID: 1, Kind: api.Up, State: api.Going, Desc: d, Blob: whole, Up: up}
		if k > 10 {
			row = table.End(row, api.Failed)
		}
		rows.Add(row)
		if !bytes.Equal(stored(t, a, da), encoded(ratchet.First(secret, seedA, otherB), rows)) {
			t.Fatal("failure", k)
		}
	}
	move(t, a, api.Move{ID: 1, Kind: api.Up, State: api.Failed, Size: 30})
	if err := a.Tick(); err != nil || a.Waiting() != 0 {
		t.Error(err)
	}
}

func TestADownloadThatFails(t *testing.T) {
	_, b, _, db := pair(t)
	d, _ := desc.Make(5, ramp(30), 10, fileID)
	p := sealed(t, append([]byte{2}, desc.Bytes(d)...))[0]
	_, err := b.Recv(p)
	must(t, err)
	s := blob.New(api.MaxBlob, 100) // it is empty
	for range 10 {
		if !round(t, b, s) {
			t.Fatal("nothing is asked")
		}
		move(t, b, api.Move{ID: 1, Kind: api.Down, State: api.Going, Size: 30, All: 3})
		for range 64 {
			must(t, b.Tick())
		}
	}
	round(t, b, s)
	move(t, b, api.Move{ID: 1, Kind: api.Down, State: api.Failed, Size: 30})
	r, rows := ratchet.Second(secret, seedB), &table.Table{}
	r.Open(p)
	rows.Add(table.Row{ID: 1, Kind: api.Down, State: api.Failed, Desc: api.Desc{ID: 5, Size: 30, Chunk: 10}})
	if !bytes.Equal(stored(t, b, db), encoded(r, rows)) {
		t.Error("what is stored after a failure")
	}
}

func TestTheDescriptionMayBeOneTooMany(t *testing.T) {
	a, _, da, _ := pair(t)
	s := blob.New(api.MaxBlob, 100)
	sendFile(t, a, ramp(5), 10)
	for range 3 { // Stat, Open, Put
		round(t, a, s)
	}
	q, err := a.Ask()
	must(t, err)
	for range api.MaxOut {
		must(t, a.SendText("x"))
	}
	must(t, a.Answer(frame.Serve(s, q)))
	if a.Waiting() != api.MaxOut+1 {
		t.Error(a.Waiting())
	}
	stored(t, a, da)
	move(t, a, api.Move{ID: 1, Kind: api.Up, State: api.Done, Size: 5})
}

func TestAnswerWithoutAKey(t *testing.T) {
	// A side without a key that has a file on its way up cannot describe it.
	d, whole := desc.Make(1, ramp(5), 10, fileID)
	rows := &table.Table{}
	rows.Add(table.Row{ID: 1, Kind: api.Up, State: api.Going, Desc: d, Blob: whole, Up: upload.Up{Phase: upload.Commit}})
	disk := diskOf(t, encoded(ratchet.Second(secret, seedB), rows))
	c, err := client.Open(disk)
	must(t, err)
	_, err = c.Ask()
	must(t, err)
	done := frame.Response(api.Response{})
	unchanged(t, c, disk, api.ErrKey, func() error { return c.Answer(done) })
	unchanged(t, c, disk, api.ErrState, func() error { return c.Answer(done) })
}

func TestTick(t *testing.T) {
	d, whole := desc.Make(1, ramp(30), 10, fileID)
	r := ratchet.First(secret, seedA, otherB)
	build := func(waits ...int) []byte {
		rows := &table.Table{}
		down := download.New(d)
		resting := download.New(d)
		down.Pace().Wait, resting.Pace().Wait = waits[1], waits[3]
		rows.Add(table.Row{ID: 1, Kind: api.Up, State: api.Going, Desc: d, Blob: whole, Up: upload.Up{Pace: pace.Pace{Tries: 1, Wait: waits[0]}}})
		rows.Add(table.Row{ID: 2, Kind: api.Down, State: api.Going, Desc: d, Down: down})
		rows.Add(table.Row{ID: 3, Kind: api.Up, State: api.Paused, Desc: d, Blob: whole, Up: upload.Up{Pace: pace.Pace{Wait: waits[2]}}})
		rows.Add(table.Row{ID: 4, Kind: api.Down, State: api.Paused, Desc: d, Down: resting})
		return encoded(r, rows)
	}
	disk := diskOf(t, build(2, 1, 5, 6))
	c, err := client.Open(disk)
	must(t, err)
	for k, want := range [][]byte{build(1, 0, 5, 6), build(0, 0, 5, 6)} {
		must(t, c.Tick())
		if !bytes.Equal(stored(t, c, disk), want) || saves(t, disk) != k+2 {
			t.Error("tick", k)
		}
	}
	disk.Fuse(0)
	must(t, c.Tick()) // nothing is saved
	if disk.Off() {
		t.Error("a Tick without change was saved")
	}
	disk.Fuse(-1)
	unchanged(t, c, disk, nil, c.Tick)
}

func TestPauseResumeCancelForget(t *testing.T) {
	states := map[string]int{"going": api.Going, "paused": api.Paused, "done": api.Done, "cancelled": api.Cancelled, "failed": api.Failed}
	acts := map[string]func(c *client.Client, id int) error{"Pause": (*client.Client).Pause, "Resume": (*client.Client).Resume, "Cancel": (*client.Client).Cancel, "Forget": (*client.Client).Forget}
	leads := map[string]int{
		"Pause going": api.Paused, "Resume paused": api.Going, "Cancel going": api.Cancelled, "Cancel paused": api.Cancelled,
		"Forget done": -1, "Forget cancelled": -1, "Forget failed": -1,
	}
	for _, kind := range []int{api.Up, api.Down} {
		for name, state := range states {
			for act, do := range acts {
				row := rowOf(kind, state)
				rows := &table.Table{}
				rows.Add(row)
				other := rowOf(api.Up, api.Going)
				other.ID = 2
				rows.Add(other)
				r := ratchet.First(secret, seedA, otherB)
				d := diskOf(t, encoded(r, rows))
				c, err := client.Open(d)
				must(t, err)
				for _, id := range []int{0, -1, 3, 1 << 40} {
					unchanged(t, c, d, api.ErrNone, func() error { return do(c, id) })
				}
				next, ok := leads[act+" "+name]
				if !ok {
					unchanged(t, c, d, api.ErrState, func() error { return do(c, 1) })
					continue
				}
				must(t, do(c, 1))
				switch next {
				case -1:
					rows.Drop(1)
				case api.Cancelled:
					rows.Set(table.End(row, api.Cancelled))
				default:
					row.State = next
					rows.Set(row)
				}
				if !bytes.Equal(stored(t, c, d), encoded(r, rows)) || saves(t, d) != 2 {
					t.Error(act, name)
				}
			}
		}
	}
}

// rowOf is a row, with what a row of that kind and state has.
func rowOf(kind, state int) table.Row {
	d, whole := desc.Make(1, ramp(30), 10, fileID)
	row := table.Row{ID: 1, Kind: kind, State: state, Desc: d}
	switch {
	case state != api.Going && state != api.Paused:
		row = table.End(row, state)
		if kind == api.Down && state == api.Done {
			row.Blob = ramp(30)
		}
	case kind == api.Up:
		row.Blob = whole
		row.Up = upload.Up{Phase: upload.Put, At: 7}
	default:
		row.Down = download.New(d)
		row.Down.Answer(api.Response{Data: whole[:96]})
		at, n := desc.Place(d, 0)
		row.Down.Answer(api.Response{Data: whole[at : at+n]})
	}
	return row
}

func TestReadAndMoves(t *testing.T) {
	for kind := api.Up; kind <= api.Down; kind++ {
		for state := api.Going; state <= api.Failed; state++ {
			row := rowOf(kind, state)
			rows := &table.Table{}
			rows.Add(row)
			d := diskOf(t, encoded(ratchet.First(secret, seedA, otherB), rows))
			c, err := client.Open(d)
			must(t, err)
			var want []byte
			var wantErr error
			switch {
			case kind == api.Up || state == api.Cancelled || state == api.Failed:
				wantErr = api.ErrState
			case state == api.Done:
				want = ramp(30)
			default:
				want = ramp(10)
			}
			unchanged(t, c, d, wantErr, func() error {
				got, err := c.Read(1)
				if !bytes.Equal(got, want) {
					t.Error(kind, state, got)
				}
				_ = append(got, 99)
				clear(got)
				return err
			})
			for _, id := range []int{0, 2, -1} {
				unchanged(t, c, d, api.ErrNone, func() error { _, err := c.Read(id); return err })
			}
			if got := c.Moves(); len(got) != 1 || got[0] != table.Told(row) {
				t.Error(kind, state, got)
			}
		}
	}
}

func TestNoRoom(t *testing.T) {
	d := disk.New(11) // five sectors a half
	a, err := client.Create(d, true, secret, seedA, otherB)
	must(t, err)
	n := 0
	for ; a.SendText("some text") == nil; n++ {
	}
	if n == 0 || a.Waiting() != n {
		t.Error(n, a.Waiting())
	}
	unchanged(t, a, d, api.ErrFull, func() error { return a.SendText("some text") })
	unchanged(t, a, d, api.ErrFull, func() error { _, err := a.SendFile(ramp(600), 64, fileID); return err })
	stored(t, a, d)
	// What could not be sent has used no key up.
	_, b, _, _ := pair(t)
	out(t, a)
	must(t, a.SendText("some text"))
	for range n - 1 {
		out(t, a)
	}
	got, err := b.Recv(out(t, a))
	if err != nil || got.Text != "some text" {
		t.Error(got, err)
	}
}

func TestClosed(t *testing.T) {
	a, b, da, _ := pair(t)
	text(t, a, b, "x")
	id := sendFile(t, a, ramp(30), 10)
	must(t, a.SendText("waits"))
	must(t, b.SendText("to a"))
	p := out(t, b)
	_, err := a.Ask()
	must(t, err)
	da.Fuse(0)
	if err := a.SendText("y"); err != api.ErrOff || !a.Closed() {
		t.Fatal(err)
	}
	for name, act := range map[string]func() error{
		"SendText":        func() error { return a.SendText("z") },
		"a long SendText": func() error { return a.SendText(strings.Repeat("z", 300)) },
		"SendFile":        func() error { _, err := a.SendFile(nil, 5, fileID); return err },
		"Recv":            func() error { _, err := a.Recv(p); return err },
		"a wrong Recv":    func() error { _, err := a.Recv(nil); return err },
		"Out":             func() error { _, err := a.Out(); return err },
		"Ask":             func() error { _, err := a.Ask(); return err },
		"Answer":          func() error { return a.Answer(frame.Response(api.Response{})) },
		"Tick":            func() error { return a.Tick() },
		"Pause":           func() error { return a.Pause(id) },
		"Resume":          func() error { return a.Resume(99) },
		"Cancel":          func() error { return a.Cancel(id) },
		"Forget":          func() error { return a.Forget(id) },
		"Read":            func() error { _, err := a.Read(id); return err },
	} {
		if err := act(); err != api.ErrClosed {
			t.Error(name, err)
		}
	}
	if len(a.Moves()) != 0 || a.Waiting() != 0 || len(a.Bytes()) != 0 || !a.Closed() {
		t.Error("a closed client tells something")
	}
	da.Crash()
	if a.Tick() != api.ErrClosed || !a.Closed() {
		t.Error("a closed client opens itself")
	}
	a, err = client.Open(da)
	must(t, err)
	if a.Waiting() != 1 || len(a.Moves()) != 1 || a.Closed() {
		t.Error(a.Waiting(), a.Moves())
	}
	got, err := a.Recv(p)
	if err != nil || got.Text != "to a" {
		t.Error(got, err)
	}
}

// TestCrashAnywhere lets the power fail at each of its draws in each kind of call: the client is as before, or as after it.
func TestCrashAnywhere(t *testing.T) {
	_, peer, _, _ := pair(t)
	s := blob.New(api.MaxBlob, 100)
	packets := sealed(t, []byte("\x01text"), []byte("\x01late"))
	_, err := peer.Recv(packets[1])
	must(t, err)
	begin := func() (*client.Client, *disk.Disk) {
		d := disk.New(100)
		c, err := client.Create(d, false, secret, seedB, otherA)
		must(t, err)
		_, err = c.Recv(packets[1])
		must(t, err)
		sendFile(t, c, ramp(40), 20)
		must(t, c.SendText("waits"))
		must(t, c.Pause(sendFile(t, c, ramp(5), 5)))
		sendFile(t, c, ramp(5), 5)
		must(t, c.Cancel(3))
		_, err = c.Ask()
		must(t, err)
		return c, d
	}
	for name, act := range map[string]func(c *client.Client) error{
		"SendText": func(c *client.Client) error { return c.SendText("text") },
		"SendFile": func(c *client.Client) error { _, err := c.SendFile(ramp(9), 3, fileID); return err },
		"Recv":     func(c *client.Client) error { _, err := c.Recv(packets[0]); return err },
		"Out":      func(c *client.Client) error { _, err := c.Out(); return err },
		"Answer":   func(c *client.Client) error { return c.Answer(frame.Response(api.Response{Code: 14})) },
		"Resume":   func(c *client.Client) error { return c.Resume(2) },
		"Cancel":   func(c *client.Client) error { return c.Cancel(1) },
		"Forget":   func(c *client.Client) error { return c.Forget(3) },
	} {
		c, d := begin()
		before := c.Bytes()
		must(t, act(c))
		after := stored(t, c, d)
		for n := 0; ; n++ {
			ended := false
			for _, keep := range []int{0, 1} {
				c, d := begin()
				d.Fuse(n)
				err := act(c)
				ended = err == nil
				if !ended && (err != api.ErrOff || !c.Closed()) {
					t.Fatal(name, n, err)
				}
				d.Crash(slices.Repeat([]int{keep}, 100)...)
				again, err := client.Open(d)
				if err != nil {
					t.Fatal(name, n, err)
				}
				got := again.Bytes()
				if !bytes.Equal(got, after) && (ended || !bytes.Equal(got, before)) {
					t.Error(name, n, keep, "is neither before nor after")
				}
				image := d.Image()
				if twice, err := client.Open(d); err != nil || !bytes.Equal(twice.Bytes(), got) || !bytes.Equal(d.Image(), image) {
					t.Error(name, n, "opened twice it is another one")
				}
			}
			if ended {
				break
			}
		}
	}
	round(t, peer, s)
}

// TestForgetting lets two pairs differ in the key of a file alone, and wants equal disks after its end.
func TestForgetting(t *testing.T) {
	for _, end := range []string{"done", "cancelled", "failed"} {
		var images [2][2][]byte
		for k := range 2 {
			a, b, da, db := pair(t)
			s := blob.New(api.MaxBlob, 1000)
			_, err := a.SendFile(ramp(100), 20, api.Key{byte(9 + k)})
			must(t, err)
			rounds(t, a, s)
			_, err = b.Recv(out(t, a))
			must(t, err)
			switch end {
			case "done":
				rounds(t, b, s)
			case "cancelled":
				round(t, b, s)
				must(t, b.Cancel(1))
			case "failed":
				for i := 0; b.Moves()[0].State == api.Going; i++ {
					round(t, b, blob.New(1, 1))
					must(t, b.Tick())
				}
			}
			images[k] = [2][]byte{da.Image(), db.Image()}
		}
		for side := range 2 {
			if !bytes.Equal(images[0][side], images[1][side]) {
				t.Error("side", side, "remembers the key of what was", end)
			}
		}
	}
}

// TestNoKeyTwice lets the power fail while texts are sent, and wants that no header and no packet begins twice alike.
func TestNoKeyTwice(t *testing.T) {
	a, b, da, _ := pair(t)
	text(t, a, b, "x")
	seen := map[string]string{}
	for n := range 120 {
		da.Fuse(n % 60)
		a.SendText("text " + strconv.Itoa(n))
		for a.Waiting() > 0 {
			p, err := a.Out()
			if err != nil {
				break
			}
			if rest, ok := seen[string(p[:40])]; ok && rest != string(p[40:]) {
				t.Fatal("a key was used twice")
			}
			seen[string(p[:40])] = string(p[40:])
		}
		da.Fuse(-1)
		if a.Closed() {
			da.Crash(slices.Repeat([]int{n % 2}, 400)...)
			var err error
			if a, err = client.Open(da); err != nil {
				t.Fatal(err)
			}
		}
	}
	if len(seen) < 10 {
		t.Error("only", len(seen), "packets came out")
	}
}
