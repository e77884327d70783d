package archive

import (
	"iter"

	"scriptorium/api"
	"scriptorium/fault"
	"scriptorium/hold"
	"scriptorium/record"
	"scriptorium/seal"
)

// book is what the records tell that have been taken, from the first one on: only such as keep to the rules.
type book struct {
	segs  []segment
	msgs  map[int64]*kept // by number: messages, and what is left of those that are purged
	holds []api.Hold
	last  int64 // the greatest number so far
}

// segment is its number, its records, and its seal (of noughts, as long as the next segment doesn't have it).
type segment struct {
	num  int
	recs []*kept
	seal api.Seal
}

// kept is a record, and where it stands: in which segment of the book's, as which one of it.
type kept struct {
	data []byte
	rec  api.Record // but for a message's body, which stands in data alone
	id   int64
	leaf [32]byte
	seg  int
	at   int
}

func newBook() book { return book{msgs: map[int64]*kept{}} }

// need ends the call, unless the rules are kept.
func need(ok bool) { fault.Need(ok, api.ErrArchive) }

// read takes all records of those segments. Where a rule is broken it ends the call: then that segment is the last one.
func (b *book) read(segs []int, records func(seg int) [][]byte) {
	for i, seg := range segs {
		b.begin(seg)
		recs := records(seg)
		need(len(recs) > 0 || i == len(segs)-1)
		for _, data := range recs {
			b.take(data)
		}
	}
}

// begin lays an empty segment behind the others.
func (b *book) begin(num int) { b.segs = append(b.segs, segment{num: num}) }

// end is the last segment. There is one as soon as a log has been read.
func (b *book) end() *segment { return &b.segs[len(b.segs)-1] }

// bare is whether the next record has to be the seal of the segment ahead.
func (b *book) bare() bool { return len(b.segs) > 1 && len(b.end().recs) == 0 }

// due is that seal.
func (b *book) due() api.Seal {
	var prev [32]byte
	ahead := b.segs[:len(b.segs)-1]
	if len(ahead) > 1 {
		prev = seal.Sum(ahead[len(ahead)-2].seal)
	}
	s := ahead[len(ahead)-1]
	made, err := seal.Of(s.num, s.leaves(), prev)
	fault.Must(err)
	return made
}

// take lays a record behind the others of the last segment; it ends the call, if it breaks a rule.
func (b *book) take(data []byte) {
	k := &kept{leaf: record.Leaf(data), seg: len(b.segs) - 1, at: len(b.end().recs)}
	k.set(data)
	need((k.rec.Kind == api.RecSeal) == b.bare())
	switch k.rec.Kind {
	case api.RecMessage, api.RecPurged:
		need(k.id > b.last)
		b.last = k.id
		b.msgs[k.id] = k
	case api.RecSeal:
		need(k.rec.Seal == b.due())
		b.segs[k.seg-1].seal = k.rec.Seal
	case api.RecHold:
		b.hold(hold.Place(b.holds, k.rec.Hold))
	case api.RecLift:
		b.hold(hold.Lift(b.holds, k.rec.Hold.Name))
	}
	b.end().recs = append(b.end().recs, k)
}

// hold has those holds from now on, unless a rule is broken.
func (b *book) hold(l []api.Hold, err api.Errno) {
	need(err == api.OK)
	b.holds = l
}

// find is the record of that number; it ends the call, if there is none.
func (b *book) find(id int64) *kept {
	k, ok := b.msgs[id]
	fault.Need(ok, api.ErrNone)
	return k
}

// those tells the records of that kind, in order.
func (b *book) those(kind int) iter.Seq[*kept] {
	return func(yield func(*kept) bool) {
		for _, s := range b.segs {
			for _, k := range s.recs {
				if k.rec.Kind == kind && !yield(k) {
					return
				}
			}
		}
	}
}

// leaves are those of all records.
func (s segment) leaves() [][32]byte {
	var l [][32]byte
	for _, k := range s.recs {
		l = append(l, k.leaf)
	}
	return l
}

// sealed is whether the next segment has its seal.
func (s segment) sealed() bool { return s.seal.Seg > 0 }

// set makes data the record's bytes; its leaf and its place stay.
func (k *kept) set(data []byte) {
	rec, err := record.Decode(data)
	need(err == api.OK)
	rec.Msg.Body = nil
	k.data, k.rec, k.id = data, rec, record.ID(data)
}
