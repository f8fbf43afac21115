package shell

import (
	"strings"
	"testing"

	"rolodex/api"
)

const twoDevices = "world 2 100000 1000 1000\nregister 0\nregister 1\n"

func run(t *testing.T, text string) string {
	t.Helper()
	s, e := Run(text)
	if e != api.OK {
		t.Fatalf("%q: %v", text, e)
	}
	return s
}

func TestTheTenExamples(t *testing.T) {
	for _, c := range [][2]string{
		{"set 0 c fn Ann | round 0 | round 1 | list 1", "ok 0.1; ok 2; ok 1; ok c=Ann; end 1 1 same"},
		{"set 0 c fn Ann | set 1 c fn Bob | round 0 | round 1 | round 0 | get 0 c", "ok 0.1; ok 1.1; ok 2; ok 2; ok 1; ok fn=Bob; end 1 1 same"},
		{"set 0 c fn Ann | round 0 | round 1 | drop 0 c | set 1 c tel 5 | round 0 | round 1 | round 0 | list 0", "ok 0.1; ok 2; ok 1; ok 0.2; ok 1.1; ok 2; ok 2; ok 1; ok c=c; end 1 1 same"},
		{"set 0 c fn Ann | crash 0 | list 0 | round 0", "ok 0.1; ok; ok c=Ann; ok 0; end 1 0 unlike"},
		{"set 0 c fn Ann | send 0 | lose 1 | send 0", "ok 0.1; ok 1; ok; ok 0; end 1 0 unlike"},
		{"set 0 c fn Ann | send 0 | deliver 1 | deliver 2 | send 0", "ok 0.1; ok 1; ok; ok; ok 3; end 1 0 unlike"},
		{"room 0 0 | set 0 c fn Ann | list 0", "ok; error 5; ok; end 0 0 same"},
		{`import 0 BEGIN:VCARD\nVERSION:4.0\nUID:u\nTEL:1\nEND:VCARD | get 0 u`, "ok 2; ok tel=1 uid=u; end 1 0 unlike"},
		{"photo 0 c abc | view 0 c | view 1 c", "ok 0.1; ok abc; error 4; end 1 0 unlike"},
		{"revoke 1 | set 0 c fn Ann | round 0 | drop 1 c", "ok; ok 0.1; ok 1; error 4; end 1 0 unlike"},
	} {
		want := "ok\nok\n" + strings.ReplaceAll(c[1], "; ", "\n") + "\n"
		if got := run(t, twoDevices+strings.ReplaceAll(c[0], " | ", "\n")); got != want {
			t.Errorf("%s:\n%s, want\n%s", c[0], got, want)
		}
	}
}

func TestP27_1Texts(t *testing.T) {
	for text, want := range map[string]string{
		"world 1 1000 5 5":                               "end 0 same\n",
		"\n # x\n\tworld  03 1000 5 5 \n":                "end 0 0 0 same\n",
		"world 0 1 1 1":                                  "error 1\n",
		"world 1 0 1 1":                                  "error 5\n",
		"world -1 -1 -1 -1":                              "error 1\n",
		"world 1 1000 5 5\nlist 0\nnone\nworse":          "line 3\n",
		"#\n\nworld 0 0 0 0\n\n#\nlist":                  "line 6\n",
		"world 1 1000 5 5\nworld 1 1000 5 5":             "line 2\n",
		"world 1 1000 5 5\nlist 0\n\n# x\nset 0 c f a_b": "ok\nok 0.1\nend 1 unlike\n",
	} {
		if got := run(t, text); got != want {
			t.Errorf("%q: %q, want %q", text, got, want)
		}
	}
	for _, text := range []string{"", "\n\n", "# x", "list 0", "list 0\nworld 1 1 1 1", "world", "world 1 1 1", "world 1 1 1 1 1", "world 1 1 1 x", "world 1 1 1 1234567890123", "World 1 1 1 1", "world 1 1 \\e 1", "world 1 1 1 +1"} {
		if s, e := Run(text); s != "" || e != api.ESYNTAX {
			t.Errorf("%q: %q %v", text, s, e)
		}
	}
}

func TestP27_1Limits(t *testing.T) {
	world := "world 1 1000 5 5\n"
	for text, want := range map[string]api.Errno{
		world + strings.Repeat("\n", 999): api.OK, world + strings.Repeat("\n", 1000): api.ELIMIT, strings.Repeat("x\n", 1001): api.ELIMIT, strings.Repeat("\n", 1000): api.ESYNTAX, strings.Repeat("\n", 999) + world[:len(world)-1]: api.OK,
		world + "#" + strings.Repeat("x", api.MaxScript-len(world)-1): api.OK, world + "#" + strings.Repeat("x", api.MaxScript-len(world)): api.ELIMIT, strings.Repeat("x", api.MaxScript+1): api.ELIMIT,
	} {
		if s, e := Run(text); e != want || e != api.OK && s != "" {
			t.Errorf("%d bytes: %v, want %v", len(text), e, want)
		}
	}
}

func TestP27_2Remarks(t *testing.T) {
	steps := []string{"register 0", "set 0 c fn Ann", "photo 0 c x", "send 0", "deliver 1 20", "deliver 2", "tick 20", "send 0", "tick 60", "round 0", "crash -1 1 2 3", "register 1", "round 1", "view 1 c", "collect", "list 1"}
	plain := "world 2 9000 1000 1000\n" + strings.Join(steps, "\n")
	want := run(t, plain)
	for range 3 {
		if run(t, plain) != want {
			t.Fatal("the same text says another thing")
		}
	}
	if got := run(t, "# first\n\nworld 2 9000 1000 1000\n"+strings.Join(steps, "\n\n # x\n")+"\n#"); got != want {
		t.Errorf("%q, want %q", got, want)
	}
	if !strings.HasSuffix(want, "ok x\nok 0 0\nok c=Ann\nend 1 1 same\n") {
		t.Errorf("%q", want)
	}
	if a, b := run(t, "world 1 1000 5 5\nnone"), run(t, "#\nworld 1 1000 5 5\n#\nnone"); a != "line 2\n" || b != "line 4\n" {
		t.Error("the number counts them")
	}
}

// T5, told by a text: two devices that are registered and sync, each twice in turn, agree.
func TestT5TheyAgree(t *testing.T) {
	text := twoDevices + "set 0 a fn A\nset 1 a fn B\nphoto 1 b pic\nset 0 b tel 1\nsend 0\nlose 1\nsend 1\ndouble 2\ndeliver 2 30\ndeliver 3\ndeliver 5\ncrash 0 3 1 2\ntick 2000\ncollect\ncrash -1\ndrop 1 a\nimport 0 BEGIN:VCARD\\nVERSION:4.0\\nUID:u\\nTEL:1\\nEND:VCARD\n" +
		"register 0\nregister 1\nround 0\nround 1\nround 0\nround 1\nview 0 b\n"
	if got := run(t, text); !strings.HasSuffix(got, "ok pic\nend 3 3 same\n") && !strings.HasSuffix(got, "ok pic\nend 2 2 same\n") {
		t.Error(got)
	}
}
