package script

import (
	"strconv"
	"strings"

	"rolodex/api"
	"rolodex/client"
	"rolodex/platform"
)

// Play does one.
func Play(w *platform.World, s Step) string {
	if !isStep(s) {
		return failed(api.EARG)
	}
	switch s.Word {
	case "set", "drop", "photo":
		return edited(edit(w, s))
	case "import":
		return imported(w.Import(s.number(0), s.Args[1]))
	case "get", "list", "view":
		c := w.Device(s.number(0))
		if c == nil {
			return failed(api.EARG)
		}
		return look(c, s)
	case "send":
		return counted(w.Send(s.number(0)))
	case "double":
		return counted(w.Double(s.number(0)))
	case "round":
		return counted(w.Round(s.number(0)))
	case "collect":
		evicted, dropped, e := w.Collect()
		return answered(e, strconv.Itoa(evicted), strconv.Itoa(dropped))
	}
	return answered(do(w, s))
}

// number is an argument that is a number.
func (s Step) number(i int) int {
	n, _ := strconv.Atoi(s.Args[i])
	return n
}

func failed(e api.Errno) string { return "error " + strconv.Itoa(int(e)) }

// answered tells an error, or words.
func answered(e api.Errno, words ...string) string {
	if e != api.OK {
		return failed(e)
	}
	return strings.Join(append([]string{"ok"}, words...), " ")
}

func counted(n int, e api.Errno) string { return answered(e, strconv.Itoa(n)) }

func edited(x api.Event, e api.Errno) string {
	return answered(e, strconv.Itoa(x.Dot.Dev)+"."+strconv.FormatUint(x.Dot.N, 10))
}

func imported(n, line int, e api.Errno) string {
	if e != api.OK {
		return failed(e) + " at " + strconv.Itoa(line)
	}
	return counted(n, e)
}

func edit(w *platform.World, s Step) (api.Event, api.Errno) {
	switch s.Word {
	case "set":
		return w.Set(s.number(0), s.Args[1], s.Args[2], s.Args[3])
	case "photo":
		return w.Photo(s.number(0), s.Args[1], []byte(s.Args[2]))
	}
	field := ""
	if len(s.Args) > 2 {
		field = s.Args[2]
	}
	return w.Drop(s.number(0), s.Args[1], field)
}

// look tells what a device shows.
func look(c *client.Client, s Step) string {
	var words []string
	switch s.Word {
	case "get":
		l, e := c.Get(s.Args[1])
		for _, f := range l {
			words = append(words, Tell(f.Name)+"="+Tell(f.Value))
		}
		return answered(e, words...)
	case "list":
		for _, l := range c.List() {
			words = append(words, Tell(l.Contact)+"="+Tell(l.Title))
		}
		return answered(api.OK, words...)
	}
	photo, e := c.Photo(s.Args[1])
	return answered(e, Tell(string(photo)))
}

// do does a step that answers nothing but how it went.
func do(w *platform.World, s Step) api.Errno {
	n := s.number(0)
	switch s.Word {
	case "register":
		return w.Register(n)
	case "revoke":
		if n < 0 {
			return api.EARG
		}
		return w.Revoke(uint64(n))
	case "poll":
		return w.Poll(n)
	case "lose":
		return w.Lose(n)
	case "deliver":
		most := -1
		if len(s.Args) > 1 {
			most = s.number(1)
		}
		return w.Deliver(n, most)
	case "tick":
		return w.Tick(int64(n))
	case "feed":
		if n < 0 {
			return api.EARG
		}
		w.Feed(uint64(n))
		return api.OK
	case "crash":
		var picks []int
		for i := 1; i < len(s.Args); i++ {
			picks = append(picks, s.number(i))
		}
		return w.Crash(n, picks)
	}
	return w.Room(n, s.number(1))
}
