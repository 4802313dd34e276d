package frame

import (
	"bytes"

	"glossator/api"
)

// readHead reads bytes of a head. When it ends, what follows it is read at once, even if no byte does: a body of no bytes is complete then.
func (r *Reader) readHead(chunk []byte) []byte {
	for i, c := range chunk {
		r.part = append(r.part, c)
		if isEnded(r.part) {
			r.endHead()
			return r.read(chunk[i+1:])
		}
		if len(r.part) == api.MaxHead {
			r.die(api.ErrHead)
			return nil
		}
	}
	return nil
}

// isEnded reports whether a head that had not ended before its last byte ends with it.
func isEnded(head []byte) bool {
	return bytes.HasSuffix(head, []byte(lineEnd+lineEnd)) || string(head) == lineEnd
}

func (r *Reader) endHead() {
	size, e := bodySize(string(r.part))
	if e != api.OK {
		r.die(e)
		return
	}
	r.part, r.size = nil, size
	r.read = r.readBody
}

func (r *Reader) readBody(chunk []byte) []byte {
	n := min(r.size-len(r.part), len(chunk))
	r.part = append(r.part, chunk[:n]...)
	if len(r.part) == r.size {
		r.bodies = append(r.bodies, string(r.part))
		r.part = nil
		r.read = r.readHead
	}
	return chunk[n:]
}

func (r *Reader) die(e api.Errno) {
	r.dead, r.part = e, nil
	r.read = r.ignore
}

func (r *Reader) ignore([]byte) []byte { return nil }
