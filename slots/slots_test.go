package slots_test

import (
	"bytes"
	"math"
	"testing"

	"courier/api"
	"courier/disk"
	"courier/slots"
)

// ramp are n bytes, none of them 0.
func ramp(from, n int) []byte {
	b := make([]byte, n)
	for i := range b {
		b[i] = byte((from+i)%255 + 1)
	}
	return b
}

// sector is b, filled with zeros.
func sector(b ...byte) []byte {
	return append(b, make([]byte, api.Sector-len(b))...)
}

func headOf(saves uint32, half byte, size uint32) []byte {
	return sector('C', 'O', 'U', 'R', byte(saves), byte(saves>>8), byte(saves>>16), byte(saves>>24), half,
		byte(size), byte(size>>8), byte(size>>16), byte(size>>24))
}

// differ are the sectors in which two images of one length differ.
func differ(a, b []byte) (l []int) {
	for i := 0; i < len(a); i += api.Sector {
		if !bytes.Equal(a[i:i+api.Sector], b[i:i+api.Sector]) {
			l = append(l, i/api.Sector)
		}
	}
	return l
}

// diskOf has these sectors, all durable.
func diskOf(t *testing.T, sectors ...[]byte) *disk.Disk {
	t.Helper()
	d := disk.New(len(sectors))
	for i, b := range sectors {
		if err := d.Write(i, b); err != nil {
			t.Fatal(err)
		}
	}
	if err := d.Sync(); err != nil {
		t.Fatal(err)
	}
	return d
}

func open(t *testing.T, d *disk.Disk) *slots.Slots {
	t.Helper()
	s, err := slots.Open(d)
	if err != nil || s == nil {
		t.Fatal("Open:", err)
	}
	return s
}

func save(t *testing.T, s *slots.Slots, b []byte) {
	t.Helper()
	if err := s.Save(b); err != nil {
		t.Fatal("Save:", err)
	}
}

func loads(t *testing.T, s *slots.Slots, want []byte) {
	t.Helper()
	if got, err := s.Load(); err != nil || !bytes.Equal(got, want) {
		t.Errorf("Load: %v, %v, want %v", got, err, want)
	}
}

func TestNewDisk(t *testing.T) {
	for n, room := range map[int]int{1: 0, 2: 0, 3: 128, 4: 128, 5: 256, 399: 199 * 128, 400: 199 * 128} {
		d := disk.New(n)
		d.Fuse(0) // nothing may be written
		s := open(t, d)
		if s.Room() != room || s.Seq() != 0 {
			t.Error(n, s.Room(), s.Seq())
		}
		loads(t, s, nil)
	}
}

func TestSaveAndLoad(t *testing.T) {
	d := disk.New(8) // three sectors a half, one left over
	s := open(t, d)
	for i, n := range []int{1, 0, 128, 129, 384, 383, 0, 0, 256, 5} {
		b := ramp(i, n)
		save(t, s, b)
		if !bytes.Equal(b, ramp(i, n)) {
			t.Fatal("Save changed its argument")
		}
		clear(b)
		loads(t, s, ramp(i, n))
		if s.Seq() != i+1 {
			t.Error("Seq", s.Seq())
		}
		want := append(headOf(uint32(i+1), byte(i%2), uint32(n)), make([]byte, 7*api.Sector)...)
		copy(want[(1+3*(i%2))*api.Sector:], ramp(i, n))
		if got := d.Image(); !bytes.Equal(got, want) {
			t.Errorf("after save %d the sectors %v are other ones", i+1, differ(got, want))
		}
		again := open(t, d)
		loads(t, again, ramp(i, n))
		if again.Seq() != i+1 || again.Room() != s.Room() {
			t.Error("opened again:", again.Seq(), again.Room())
		}
	}
}

func TestSaveIsFull(t *testing.T) {
	d := disk.New(6)
	s := open(t, d)
	save(t, s, ramp(1, 256))
	image := d.Image()
	if err := s.Save(ramp(2, 257)); err != api.ErrFull {
		t.Error("more than Room:", err)
	}
	d.Fuse(0)
	if err := s.Save(ramp(2, 257)); err != api.ErrFull || d.Off() {
		t.Error("more than Room is found ahead of the power:", err)
	}
	loads(t, s, ramp(1, 256))
	if !bytes.Equal(d.Image(), image) || s.Seq() != 1 {
		t.Error("a Save that failed changed something")
	}
	if err := open(t, disk.New(1)).Save([]byte{1}); err != api.ErrFull {
		t.Error("a disk of one sector:", err)
	}
}

func TestSaveWithoutRoomOfNothing(t *testing.T) {
	for _, n := range []int{1, 2} {
		d := disk.New(n)
		s := open(t, d)
		save(t, s, nil)
		save(t, s, nil)
		loads(t, open(t, d), nil)
		if !bytes.Equal(d.Image()[:api.Sector], headOf(2, 1, 0)) {
			t.Error(d.Image())
		}
	}
}

func TestMostSaves(t *testing.T) {
	d := diskOf(t, headOf(math.MaxUint32-1, 0, 3), sector(1, 2, 3), sector())
	s := open(t, d)
	if s.Seq() != math.MaxUint32-1 {
		t.Error(s.Seq())
	}
	save(t, s, []byte{4})
	if err := s.Save(nil); err != api.ErrFull {
		t.Error(err)
	}
	loads(t, s, []byte{4})
	if s = open(t, d); s.Seq() != math.MaxUint32 || s.Save([]byte{5}) != api.ErrFull {
		t.Error(s.Seq())
	}
}

func TestNumberOfSaves(t *testing.T) {
	d := diskOf(t, headOf(0x04030201, 1, 3), sector(), sector(1, 2, 3))
	s := open(t, d)
	if s.Seq() != 0x04030201 {
		t.Error(s.Seq())
	}
	save(t, s, []byte{4})
	if !bytes.Equal(d.Image()[:api.Sector], headOf(0x04030202, 0, 1)) || s.Seq() != 0x04030202 {
		t.Error(d.Image()[:16], s.Seq())
	}
}

func TestOpenOfWrongHeads(t *testing.T) {
	with := func(i int, x byte) []byte {
		b := headOf(5, 1, 100)
		b[i] = x
		return b
	}
	heads := map[string][]byte{
		"no save":           headOf(0, 1, 100),
		"half 2":            headOf(5, 2, 100),
		"half 255":          headOf(5, 255, 100),
		"more than Room":    headOf(5, 1, 129),
		"far more":          headOf(5, 1, math.MaxUint32),
		"only first bytes":  sector('C', 'O', 'U', 'R'),
		"only a last byte":  append(make([]byte, api.Sector-1), 1),
		"only a size":       headOf(0, 0, 1),
		"no first bytes":    append(make([]byte, 4), headOf(5, 1, 100)[4:]...),
		"another letter":    with(0, 'c'),
		"a third letter":    with(2, 0),
		"a fourth letter":   with(3, 'r'),
		"a byte behind it":  with(13, 1),
		"a byte at the end": with(127, 1),
	}
	for name, head := range heads {
		d := diskOf(t, head, sector(7), sector(8))
		image := d.Image()
		if s, err := slots.Open(d); s != nil || err != api.ErrStore {
			t.Error(name, s, err)
		}
		if !bytes.Equal(d.Image(), image) {
			t.Error(name, "was changed")
		}
	}
	loads(t, open(t, diskOf(t, headOf(5, 1, 128), sector(), ramp(0, 128))), ramp(0, 128))
	loads(t, open(t, diskOf(t, headOf(5, 0, 100), ramp(0, 128), sector())), ramp(0, 100))
}

func TestOpenWipesTheRest(t *testing.T) {
	full := ramp(3, 128)
	for _, c := range []struct {
		head  []byte
		state []int // its sectors
	}{
		{sector(), nil},
		{headOf(1, 0, 0), nil},
		{headOf(1, 1, 0), nil},
		{headOf(1, 0, 1), []int{1}},
		{headOf(1, 0, 128), []int{1}},
		{headOf(1, 0, 129), []int{1, 2}},
		{headOf(1, 1, 256), []int{4, 5}},
		{headOf(9, 1, 384), []int{4, 5, 6}},
	} {
		d := diskOf(t, c.head, full, full, full, full, full, full, full)
		want := append(bytes.Clone(c.head), make([]byte, 7*api.Sector)...)
		for _, i := range c.state {
			copy(want[i*api.Sector:], full)
		}
		open(t, d)
		if !bytes.Equal(d.Image(), want) {
			t.Errorf("%v: the sectors %v are other ones", c.head[:16], differ(d.Image(), want))
		}
		d.Fuse(0)
		open(t, d) // there is nothing left to write
	}
}

// do is a Write of a sector, or a Sync (sector -1).
type do struct {
	sector  int
	content []byte
}

// follow lets the power fail at each of the steps in turn, and holds the disk against what the steps until there leave.
// With last, what is pending comes through as the power fails, otherwise not.
func follow(t *testing.T, make func() *disk.Disk, act func(d *disk.Disk) error, steps []do) {
	t.Helper()
	for n := range len(steps) + 1 {
		for _, last := range []bool{false, true} {
			d := make()
			model := make()
			d.Fuse(n)
			err := act(d)
			if n == len(steps) {
				if err != nil {
					t.Error("there are more steps than", n, err)
				}
			} else if err != api.ErrOff {
				t.Error("step", n, err)
				continue
			}
			keep := []int{}
			if last {
				for range 500 {
					keep = append(keep, 1)
				}
			}
			for i, s := range steps[:min(n+1, len(steps))] {
				if s.sector >= 0 {
					model.Write(s.sector, s.content)
				} else if i < n {
					model.Sync()
				}
			}
			model.Crash(keep...)
			d.Crash(keep...)
			if !bytes.Equal(model.Image(), d.Image()) {
				t.Errorf("after step %d (%v): the sectors %v are other ones", n, last, differ(model.Image(), d.Image()))
			}
		}
	}
}

func TestStepsOfOpen(t *testing.T) {
	zero, full, other := sector(), ramp(3, 128), ramp(90, 128)
	follow(t, func() *disk.Disk {
		return diskOf(t, headOf(4, 1, 130), full, zero, other, full, other, full, sector(1), full)
	}, func(d *disk.Disk) error {
		_, err := slots.Open(d)
		return err
	}, []do{{1, zero}, {3, zero}, {4, zero}, {7, zero}, {8, zero}, {-1, nil}})
}

func TestStepsOfSave(t *testing.T) {
	zero := sector()
	old, state := ramp(5, 300), ramp(60, 200)
	rest := func(b []byte) []byte { return sector(bytes.Clone(b)...) }
	saves := func(b []byte) func(d *disk.Disk) error {
		return func(d *disk.Disk) error {
			s, err := slots.Open(d)
			if err != nil {
				return err
			}
			return s.Save(b)
		}
	}
	follow(t, func() *disk.Disk { return diskOf(t, zero, zero, zero, zero, zero, zero, zero) }, saves(state),
		[]do{{1, state[:128]}, {2, rest(state[128:])}, {-1, nil}, {0, headOf(1, 0, 200)}, {-1, nil}})
	before := func() *disk.Disk {
		return diskOf(t, headOf(300, 0, 300), old[:128], old[128:256], rest(old[256:]), zero, zero, zero)
	}
	follow(t, before, saves(state),
		[]do{{4, state[:128]}, {5, rest(state[128:])}, {-1, nil}, {0, headOf(301, 1, 200)}, {-1, nil}, {1, zero}, {2, zero}, {3, zero}, {-1, nil}})
	follow(t, before, saves(nil),
		[]do{{-1, nil}, {0, headOf(301, 1, 0)}, {-1, nil}, {1, zero}, {2, zero}, {3, zero}, {-1, nil}})
	follow(t, func() *disk.Disk { return diskOf(t, headOf(2, 1, 0), zero, zero, zero, zero) }, saves(state[:128]),
		[]do{{1, state[:128]}, {-1, nil}, {0, headOf(3, 0, 128)}, {-1, nil}})
}

func TestCrashLeavesOneOfTwoStates(t *testing.T) {
	old, state := ramp(5, 300), bytes.Repeat([]byte{7, 9}, 192)
	for n := range 12 {
		for mask := range 64 {
			d := disk.New(7)
			s := open(t, d)
			save(t, s, nil)
			save(t, s, old)
			d.Fuse(n)
			failed := s.Save(state) != nil
			keep := make([]int, 7)
			for i := range keep {
				keep[i] = mask >> i & 1
			}
			d.Crash(keep...)
			again := open(t, d)
			got, err := again.Load()
			if err != nil || !bytes.Equal(got, old) && !bytes.Equal(got, state) {
				t.Fatal("fuse", n, "mask", mask, err)
			}
			if !failed && !bytes.Equal(got, state) {
				t.Fatal("what was saved is lost: fuse", n)
			}
			image := d.Image()
			for _, gone := range [][]byte{old, state} {
				if !bytes.Equal(got, gone) && bytes.Contains(image, gone[:128]) {
					t.Fatal("fuse", n, "mask", mask, "the other state is still there")
				}
			}
		}
	}
}

func TestOff(t *testing.T) {
	d := disk.New(5)
	s := open(t, d)
	save(t, s, ramp(1, 10))
	d.Fuse(0)
	if err := s.Save(nil); err != api.ErrOff {
		t.Error("Save:", err)
	}
	if got, err := s.Load(); err != api.ErrOff || len(got) != 0 {
		t.Error("Load:", got, err)
	}
	if s, err := slots.Open(d); err != api.ErrOff || s != nil {
		t.Error("Open:", s, err)
	}
}

func TestLoadIsNewMemoryOfTheDisk(t *testing.T) {
	d := disk.New(5)
	s := open(t, d)
	save(t, s, ramp(1, 10))
	got, _ := s.Load()
	got = append(got, 1, 2, 3)
	clear(got)
	loads(t, s, ramp(1, 10))
	d.Write(1, sector(ramp(50, 20)...))
	loads(t, s, ramp(50, 10))
}
