// Package block is layer 16: see shared/doc/16-block.md.
package block

const (
	mostSize = 256     // of a block
	mostText = 1 << 40 // that Pad fills up
)

// Buffer keeps what doesn't fill a block.
type Buffer struct {
	size, fill, written int
	held                [mostSize]byte
}

// New: P16.1.
func New(size int) *Buffer {
	if size < 1 || size > mostSize {
		return nil
	}
	return &Buffer{size: size}
}

// Write: P16.1.
func (b *Buffer) Write(l ...string) []string {
	if b == nil {
		return nil
	}
	var full []string
	for _, s := range l {
		b.written += len(s)
		for len(s) > 0 {
			n := copy(b.held[b.fill:b.size], s)
			b.fill, s = b.fill+n, s[n:]
			if b.fill == b.size {
				full = append(full, string(b.rest()))
				b.fill = 0
			}
		}
	}
	return full
}

// rest hands out what is held, so that whoever appends to it can't write into the buffer.
func (b *Buffer) rest() []byte { return b.held[:b.fill:b.fill] }

// Rest: P16.1.
func (b *Buffer) Rest() string {
	if b == nil {
		return ""
	}
	return string(b.rest())
}

// Len: P16.1.
func (b *Buffer) Len() int {
	if b == nil {
		return 0
	}
	return b.written
}

// Copy: P16.1.
func (b *Buffer) Copy() *Buffer {
	if b == nil {
		return nil
	}
	c := *b
	return &c
}

// Pad: P16.2.
func Pad(n, size, width int) string {
	if n < 0 || n > mostText || size < 16 || size > mostSize || width < 8 || width > 16 {
		return ""
	}
	noughts := (size - (n+1+width)%size) % size
	out := make([]byte, 1+noughts+width)
	out[0] = 128
	for i, rest := len(out)-1, 8*n; rest > 0; i, rest = i-1, rest>>8 {
		out[i] = byte(rest)
	}
	return string(out)
}
