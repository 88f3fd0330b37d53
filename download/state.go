package download

import (
	"courier/api"
	"courier/bits"
	"courier/code"
	"courier/desc"
)

// The greatest lengths of the parts of the encoding.
const (
	mostDesc    = 108
	mostLeaves  = 19200
	mostPresent = 100
)

// Bytes is the encoding of the download (P25.3).
func (w *Down) Bytes() []byte {
	var out code.Writer
	out.List(desc.Bytes(w.desc))
	mark := 0
	if w.verified {
		mark = 1
	}
	out.U8(mark)
	out.List(w.leaves)
	out.List(w.present.Bytes())
	out.List(w.file)
	out.U32(uint32(w.pace.Tries))
	out.U32(uint32(w.pace.Wait))
	return out.Bytes()
}

// Read is the download that b encodes (P25.3).
func Read(b []byte) (*Down, error) {
	var w Down
	var told, present []byte
	err := code.Read(b, func(r *code.Reader) {
		told = r.List(mostDesc)
		w.verified = r.Bool()
		w.leaves = r.List(mostLeaves)
		present = r.List(mostPresent)
		w.file = r.List(api.MaxFile)
		w.pace.Tries = int(r.U32())
		w.pace.Wait = int(r.U32())
	})
	if err != nil {
		return nil, err
	}
	if w.desc, err = desc.Read(told); err != nil {
		return nil, err
	}
	if w.present, err = bits.Of(w.chunks(), present); err != nil {
		return nil, err
	}
	if !w.leavesFit() || !w.fileFits() {
		return nil, api.ErrForm
	}
	return &w, nil
}

// leavesFit tells whether the leaves are complete and right if, and only if, they are marked as verified.
func (w *Down) leavesFit() bool {
	if w.verified {
		return w.missing() == 0 && w.rootIsRight()
	}
	return w.missing() > 0 && w.present.Count() == 0
}

// fileFits tells whether the file has its size, and nothing where no chunk is present.
func (w *Down) fileFits() bool {
	if len(w.file) != int(w.desc.Size) {
		return false
	}
	for i, x := range w.file {
		if x != 0 && !w.present.Has(i/int(w.desc.Chunk)) {
			return false
		}
	}
	return true
}
