package entry

import (
	"slices"

	"bellman/api"
	"bellman/parts"
	"bellman/value"
)

// How many numbers a switch, a range and a level have, and a zone and a category ahead of these.
const (
	switchLong   = 4
	rangeLong    = 2
	levelLong    = 4
	zoneLong     = 2
	categoryLong = 3
)

// writer puts commands.
type writer struct {
	parts.Writer
}

// reader reads commands.
type reader struct {
	parts.Reader
}

// Encode is c as bytes.
func Encode(c api.Command) (string, api.Errno) {
	if err := Check(c); err != api.OK {
		return "", err
	}
	var w writer
	w.command(c)
	return w.String(), api.OK
}

// Decode is the command of those bytes.
func Decode(s string) (api.Command, api.Errno) {
	r := reader{parts.Reader{Rest: s}}
	c := r.command()
	put, err := Encode(c)
	// What is bad, or lost some of a number that is too great, or has more behind it, has other bytes than s.
	if err != api.OK || put != s {
		return api.Command{}, api.ErrCode
	}
	return c, api.OK
}

// command puts a right command.
func (w *writer) command(c api.Command) {
	has, _ := fieldsOf(c.Kind)
	w.Nums(int64(c.Kind))
	if has.user {
		w.Texts(c.User)
	}
	if has.quiet {
		w.quiet(c.Quiet)
	}
	if has.out {
		w.Texts(c.Out.Category)
		w.Nums(int64(c.Out.Channel))
	}
	if has.category {
		w.category(c.Category)
	}
	if has.name {
		w.Texts(c.Name)
	}
	if has.data {
		put, _ := value.Encode(c.Data)
		w.WriteString(put)
	}
	if has.ref {
		w.Nums(c.Ref)
	}
	if has.good {
		w.Nums(parts.Bit(c.Good))
	}
	if has.seconds {
		w.Nums(c.Seconds)
	}
}

// quiet puts quiet hours.
func (w *writer) quiet(q api.Quiet) {
	z := q.Zone
	zone := []int64{int64(z.Base), int64(z.Save)}
	for _, s := range []api.Switch{z.From, z.To} {
		zone = append(zone, int64(s.Month), int64(s.Nth), int64(s.Weekday), int64(s.Minute))
	}
	var week []int64
	for _, minutes := range q.Week {
		week = append(week, int64(minutes.From), int64(minutes.To))
	}
	w.List(zone...)
	w.List(week...)
}

// category puts a category.
func (w *writer) category(c api.Category) {
	all := []int64{parts.Bit(c.Critical), c.Window, int64(c.Bound)}
	for _, l := range c.Chain {
		all = append(all, int64(l.Channel), l.Wait, int64(l.Tries), l.Pause)
	}
	w.Texts(c.Name, c.Source)
	w.List(all...)
}

// command reads a command. Whether it is right, and all that was there, is for Decode to tell.
func (r *reader) command() api.Command {
	c := api.Command{Kind: api.CommandKind(r.Num())}
	has, _ := fieldsOf(c.Kind)
	if has.user {
		c.User = r.Text()
	}
	if has.quiet {
		c.Quiet = r.quiet()
	}
	if has.out {
		c.Out.Category = r.Text()
		c.Out.Channel = api.Channel(r.Num())
	}
	if has.category {
		c.Category = r.category()
	}
	if has.name {
		c.Name = r.Text()
	}
	if has.data {
		c.Data = r.value()
	}
	if has.ref {
		c.Ref = r.Num()
	}
	if has.good {
		c.Good = r.Num() == 1
	}
	if has.seconds {
		c.Seconds = r.Num()
	}
	return c
}

// quiet reads quiet hours.
func (r *reader) quiet() api.Quiet {
	var q api.Quiet
	first, switches := r.rows(zoneLong, switchLong)
	if len(switches) == 2 {
		q.Zone = api.Zone{Base: int(first[0]), Save: int(first[1]), From: switchOf(switches[0]), To: switchOf(switches[1])}
	}
	_, ranges := r.rows(0, rangeLong)
	for _, minutes := range ranges {
		q.Week = append(q.Week, api.Range{From: int(minutes[0]), To: int(minutes[1])})
	}
	return q
}

// switchOf is the switch of that row.
func switchOf(row []int64) api.Switch {
	return api.Switch{Month: int(row[0]), Nth: int(row[1]), Weekday: int(row[2]), Minute: int(row[3])}
}

// category reads a category.
func (r *reader) category() api.Category {
	var c api.Category
	c.Name = r.Text()
	c.Source = r.Text()
	first, levels := r.rows(categoryLong, levelLong)
	c.Critical, c.Window, c.Bound = first[0] == 1, first[1], int(first[2])
	for _, l := range levels {
		c.Chain = append(c.Chain, api.Level{Channel: api.Channel(l[0]), Wait: l[1], Tries: int(l[2]), Pause: l[3]})
	}
	return c
}

// value reads a value; what is none is not right.
func (r *reader) value() api.Value {
	v, behind, _ := value.Decode(r.Rest)
	r.Rest = behind
	return v
}

// rows reads a list of numbers: so many that stand first, and rows of so many each behind them. What has no such list is read as zeros, which have other bytes.
func (r *reader) rows(many, each int) ([]int64, [][]int64) {
	l := r.List()
	if len(l) < many || (len(l)-many)%each != 0 {
		return make([]int64, many), nil
	}
	return l[:many], slices.Collect(slices.Chunk(l[many:], each))
}
