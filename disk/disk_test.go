package disk_test

import (
	"bytes"
	"math"
	"testing"

	"courier/api"
	"courier/disk"
)

// filled is a sector of that byte.
func filled(x byte) []byte { return bytes.Repeat([]byte{x}, api.Sector) }

func write(t *testing.T, d *disk.Disk, i int, x byte) {
	t.Helper()
	if err := d.Write(i, filled(x)); err != nil {
		t.Fatal("Write:", err)
	}
}

func sync(t *testing.T, d *disk.Disk) {
	t.Helper()
	if err := d.Sync(); err != nil {
		t.Fatal("Sync:", err)
	}
}

// reads are the first bytes of the sectors, each of which must consist of one byte.
func reads(t *testing.T, d *disk.Disk) []byte {
	t.Helper()
	var out []byte
	for i := range d.Size() {
		b, err := d.Read(i)
		if err != nil || !bytes.Equal(b, filled(b[0])) {
			t.Fatal("Read:", i, b, err)
		}
		out = append(out, b[0])
	}
	return out
}

// durable are the first bytes of the sectors in the image.
func durable(t *testing.T, d *disk.Disk) []byte {
	t.Helper()
	image := d.Image()
	if len(image) != d.Size()*api.Sector {
		t.Fatal("Image has", len(image), "bytes")
	}
	var out []byte
	for i := range d.Size() {
		s := image[i*api.Sector : (i+1)*api.Sector]
		if !bytes.Equal(s, filled(s[0])) {
			t.Fatal("Image:", i, s)
		}
		out = append(out, s[0])
	}
	return out
}

func TestNew(t *testing.T) {
	for n, want := range map[int]int{1: 1, 2: 2, 7: 7, 400: 400, 401: 400, math.MaxInt: 400, 0: 1, -1: 1, math.MinInt: 1} {
		d := disk.New(n)
		if d.Size() != want || d.Off() {
			t.Error(n, d.Size(), d.Off())
		}
		if got := reads(t, d); !bytes.Equal(got, make([]byte, want)) {
			t.Error(n, got)
		}
		if got := durable(t, d); !bytes.Equal(got, make([]byte, want)) {
			t.Error(n, got)
		}
	}
}

func TestWriteIsPendingUntilSync(t *testing.T) {
	d := disk.New(3)
	write(t, d, 0, 1)
	write(t, d, 2, 2)
	write(t, d, 2, 3)
	if got := reads(t, d); !bytes.Equal(got, []byte{1, 0, 3}) {
		t.Error("read", got)
	}
	if got := durable(t, d); !bytes.Equal(got, []byte{0, 0, 0}) {
		t.Error("durable", got)
	}
	sync(t, d)
	if got := reads(t, d); !bytes.Equal(got, []byte{1, 0, 3}) {
		t.Error("read after Sync", got)
	}
	if got := durable(t, d); !bytes.Equal(got, []byte{1, 0, 3}) {
		t.Error("durable after Sync", got)
	}
	d.Crash(1, 1, 1)
	if got := durable(t, d); !bytes.Equal(got, []byte{1, 0, 3}) {
		t.Error("durable after Sync and Crash", got)
	}
}

func TestWhatIsOutOfRange(t *testing.T) {
	d := disk.New(3)
	for _, i := range []int{-1, 3, 4, math.MinInt, math.MaxInt} {
		if b, err := d.Read(i); err != api.ErrRange || len(b) != 0 {
			t.Error("Read", i, b, err)
		}
		if err := d.Write(i, filled(1)); err != api.ErrRange {
			t.Error("Write", i, err)
		}
	}
	for _, n := range []int{0, 1, api.Sector - 1, api.Sector + 1, 2 * api.Sector} {
		if err := d.Write(1, make([]byte, n)); err != api.ErrRange {
			t.Error("Write of", n, "bytes:", err)
		}
	}
	if err := d.Write(1, nil); err != api.ErrRange {
		t.Error("Write of nil:", err)
	}
	if got := reads(t, d); !bytes.Equal(got, make([]byte, 3)) {
		t.Error(got)
	}
}

func TestMemory(t *testing.T) {
	d := disk.New(2)
	b := append(filled(1), 5, 6)[:api.Sector]
	if err := d.Write(0, b); err != nil {
		t.Fatal(err)
	}
	b[0] = 9
	pending, _ := d.Read(0)
	pending[1] = 9
	_ = append(pending, 7)
	sync(t, d)
	after, _ := d.Read(0)
	after[2] = 9
	image := d.Image()
	image[3] = 9
	if got, _ := d.Read(0); !bytes.Equal(got, filled(1)) {
		t.Error("a list is shared:", got)
	}
	if !bytes.Equal(d.Image()[:api.Sector], filled(1)) {
		t.Error("the image is shared")
	}
}

func TestFuse(t *testing.T) {
	for n := range 6 {
		d := disk.New(2)
		d.Fuse(n)
		for k := range n + 1 {
			var err error
			if k%2 == 0 {
				err = d.Write(0, filled(byte(k)))
			} else {
				err = d.Sync()
			}
			if fails := k == n; fails != (err != nil) || fails != d.Off() || fails && err != api.ErrOff {
				t.Error("fuse", n, "call", k, err)
			}
		}
	}
	d := disk.New(2)
	d.Fuse(3)
	write(t, d, 0, 1)
	sync(t, d)
	write(t, d, 1, 2)
	if d.Off() {
		t.Fatal("off too early")
	}
	if err := d.Sync(); err != api.ErrOff || !d.Off() {
		t.Error("the fourth call:", err, d.Off())
	}
	if got := durable(t, d); !bytes.Equal(got, []byte{1, 0}) {
		t.Error("a Sync without power did something:", got)
	}
}

func TestFuseCountsNoOtherErrors(t *testing.T) {
	d := disk.New(2)
	d.Fuse(1)
	if d.Write(5, filled(1)) != api.ErrRange || d.Write(0, nil) != api.ErrRange || d.Off() {
		t.Fatal("ErrRange was expected")
	}
	d.Read(0)
	write(t, d, 0, 1)
	if err := d.Write(9, filled(1)); err != api.ErrRange || d.Off() {
		t.Error("without power at the next call, a wrong Write:", err)
	}
	if err := d.Write(0, filled(2)); err != api.ErrOff || !d.Off() {
		t.Error(err)
	}
}

func TestFuseBelowZeroAndAgain(t *testing.T) {
	for _, n := range []int{-1, -5, math.MinInt} {
		d := disk.New(1)
		d.Fuse(0)
		d.Fuse(n)
		for range 20 {
			write(t, d, 0, 1)
			sync(t, d)
		}
	}
	d := disk.New(1)
	d.Fuse(1)
	d.Fuse(2)
	write(t, d, 0, 1)
	write(t, d, 0, 2)
	if err := d.Sync(); err != api.ErrOff {
		t.Error(err)
	}
	d = disk.New(1)
	d.Fuse(math.MaxInt)
	write(t, d, 0, 1)
}

func TestOff(t *testing.T) {
	d := disk.New(2)
	write(t, d, 0, 1)
	sync(t, d)
	write(t, d, 1, 2)
	d.Fuse(0)
	if d.Off() {
		t.Error("Fuse(0) alone turns the power off")
	}
	if err := d.Write(0, filled(3)); err != api.ErrOff {
		t.Fatal(err)
	}
	for _, i := range []int{0, -1, 7} {
		if b, err := d.Read(i); err != api.ErrOff || len(b) != 0 {
			t.Error("Read", i, b, err)
		}
		if err := d.Write(i, filled(4)); err != api.ErrOff {
			t.Error("Write", i, err)
		}
		if err := d.Write(i, nil); err != api.ErrOff {
			t.Error("Write of nothing", i, err)
		}
	}
	if err := d.Sync(); err != api.ErrOff {
		t.Error("Sync", err)
	}
	d.Fuse(-1)
	if !d.Off() || d.Sync() != api.ErrOff {
		t.Error("Fuse turned the power on")
	}
	if d.Size() != 2 || !bytes.Equal(durable(t, d), []byte{1, 0}) {
		t.Error("Size or Image without power")
	}
	d.Crash(1, 0)
	if d.Off() || !bytes.Equal(reads(t, d), []byte{3, 0}) {
		t.Error("the Write at which the power failed was not pending:", reads(t, d))
	}
}

func TestCrash(t *testing.T) {
	for _, c := range []struct {
		keep []int
		want []byte
	}{
		{nil, []byte{9, 8, 7, 0}},
		{[]int{0, 0, 0}, []byte{9, 8, 7, 0}},
		{[]int{1}, []byte{1, 8, 7, 0}},
		{[]int{2, 1, 1}, []byte{2, 8, 4, 0}},
		{[]int{3, 2, 2}, []byte{3, 8, 7, 0}},
		{[]int{4, 1}, []byte{9, 8, 4, 0}},
		{[]int{7, 3, 9}, []byte{3, 8, 4, 0}},
		{[]int{-1, -7, 5}, []byte{9, 8, 7, 0}},
		{[]int{math.MinInt, 1, 1, 1, 1}, []byte{9, 8, 4, 0}},
		{[]int{0, 1, 1, 1}, []byte{9, 8, 4, 0}},
		{[]int{math.MaxInt, 1}, []byte{3, 8, 4, 0}},
	} {
		d := disk.New(4)
		write(t, d, 0, 9)
		write(t, d, 1, 8)
		write(t, d, 2, 7)
		sync(t, d)
		write(t, d, 2, 4) // sectors are considered in their order, not in that of the writes
		write(t, d, 0, 1)
		write(t, d, 0, 2)
		write(t, d, 0, 3)
		d.Fuse(0)
		d.Crash(c.keep...)
		if d.Off() || !bytes.Equal(reads(t, d), c.want) || !bytes.Equal(durable(t, d), c.want) {
			t.Error(c.keep, reads(t, d), durable(t, d))
		}
		for range 3 {
			write(t, d, 1, 5)
			sync(t, d)
		}
		d.Crash(1, 1, 1)
		if got := durable(t, d); got[1] != 5 {
			t.Error(c.keep, "what was pending ahead of the crash came back:", got)
		}
	}
}

func TestCrashWithEqualContents(t *testing.T) {
	d := disk.New(1)
	write(t, d, 0, 0)
	write(t, d, 0, 0)
	write(t, d, 0, 1)
	d.Crash(3)
	if got := reads(t, d); got[0] != 1 {
		t.Error("equal contents were taken for one:", got)
	}
}
