package layout_test

import (
	"math/big"

	"solder/api"
	"solder/layout"
)

// The chapter once more, told in another way: an image is laid byte by byte, and addresses are reckoned by numbers without bounds.

// image is what has been laid: the number of its bytes, and whether they are too many for more to be laid.
type image struct {
	bytes int
	long  bool
}

// lay lays so many bytes, and answers where the first of them is.
func (i *image) lay(bytes int) int {
	begin := i.bytes
	for range bytes {
		if i.long = i.long || i.bytes == api.MaxMemory; i.long {
			break
		}
		i.bytes++
	}
	return begin
}

func wantAnswer(objs []api.Object) answer {
	var i image
	l := make([]layout.Place, len(objs))
	for range 3 {
		i.lay(4)
	}
	for n, o := range objs {
		l[n].Text = i.lay(4 * len(o.Text))
	}
	for i.bytes%8 != 0 {
		i.lay(1)
	}
	for n, o := range objs {
		l[n].Data = i.lay(len(o.Data))
	}
	if i.long {
		return tooLong
	}
	return answer{places: l, bytes: i.bytes}
}

// wantAddress is the word of where a text or data begins and of times as many as each takes.
func wantAddress(p layout.Place, sect, times int) uint32 {
	var begin, each int64
	switch sect {
	case 1:
		begin, each = int64(p.Text), 4
	case 2:
		begin, each = int64(p.Data), 1
	}
	sum := new(big.Int).Mul(big.NewInt(each), big.NewInt(int64(times)))
	sum.Add(sum, big.NewInt(begin))
	// What is left by Mod is never below 0.
	return uint32(sum.Mod(sum, big.NewInt(1<<32)).Uint64())
}
