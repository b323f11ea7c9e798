package esc_test

import (
	"fmt"
	"math/rand"
	"regexp"
	"slices"
	"strings"
	"testing"
	"unsafe"

	"bellman/api"
	"bellman/esc"
)

// channels are those that there are.
var channels = []api.Channel{api.ChannelPush, api.ChannelEmail, api.ChannelSms}

// noChannels are those that there are not.
func noChannels() []api.Channel {
	all := []api.Channel{api.ChannelNone}
	for c := api.ChannelCount; c != 0; c++ {
		all = append(all, c)
	}
	return all
}

// latin is the text with a rune of each byte, for patterns and replacers that go by runes; bytesOf is it back.
func latin(s string) string {
	var all strings.Builder
	for i := range len(s) {
		all.WriteRune(rune(s[i]))
	}
	return all.String()
}

func bytesOf(s string) string {
	var all strings.Builder
	for _, r := range s {
		all.WriteByte(byte(r))
	}
	return all.String()
}

var others = regexp.MustCompile(`[^\n\t -~]+`)

// names are those of a mail's bytes.
var names = strings.NewReplacer("&", "&amp;", "<", "&lt;", ">", "&gt;", `"`, "&quot;", "'", "&#39;")

// push is how a byte stands for ChannelPush.
func push(b byte) string {
	switch {
	case strings.IndexByte("\"\\\n\t", b) >= 0:
		return map[byte]string{'"': `\"`, '\\': `\\`, '\n': `\n`, '\t': `\t`}[b]
	case b < 32, b == 127:
		return fmt.Sprintf(`\u%04x`, b)
	}
	return bytesOf(string(rune(b)))
}

// want is s for a channel.
func want(c api.Channel, s string) string {
	switch c {
	case api.ChannelEmail:
		return names.Replace(s)
	case api.ChannelSms:
		s = others.ReplaceAllString(latin(s), "?")
		return strings.Map(func(r rune) rune { return max(r, ' ') }, s)
	}
	var all strings.Builder
	for i := range len(s) {
		all.WriteString(push(s[i]))
	}
	return all.String()
}

// strung are all texts of so many pieces at most.
func strung(pieces []string, most int) []string {
	all, ahead := []string{""}, []string{""}
	for range most {
		var longer []string
		for _, s := range ahead {
			for _, piece := range pieces {
				longer = append(longer, s+piece)
			}
		}
		all, ahead = append(all, longer...), longer
	}
	return all
}

// bytes are the 256.
func bytes() []string {
	var all []string
	for b := range 256 {
		all = append(all, string([]byte{byte(b)}))
	}
	return all
}

// texts are all of two bytes at most, some of runes, and any others.
func texts() []string {
	all := strung(bytes(), 2)
	all = append(all, "caf\u00e9", "\u20ac 5", "a\u00e9\u00e8b\u00e7", "\U0001f600!", "\xff\xfe\xfd", "a\u00e9\n\u00e9\t\u00e9", "\u2028")
	r := rand.New(rand.NewSource(13))
	some := "\x00\x01\n\t\r\x1f !\"#&';<>?\\nut0amplgqo~\x7f\x80\xc3\xa9\xff"
	for range 3000 {
		s := make([]byte, r.Intn(40))
		for i := range s {
			s[i] = some[r.Intn(len(some))]
		}
		all = append(all, string(s))
	}
	return all
}

func TestExampleOfTheChapter(t *testing.T) { // 13.1
	if s, err := esc.To(api.ChannelEmail, "<b>"); s != "&lt;b&gt;" || err != api.OK {
		t.Errorf("To is %q, %d", s, err)
	}
}

func TestToTellsSomeTexts(t *testing.T) { // 13.1
	for _, c := range []struct {
		channel api.Channel
		s, want string
	}{
		{api.ChannelPush, "", ""},
		{api.ChannelPush, "some text, 'and' <more> & so on", "some text, 'and' <more> & so on"},
		{api.ChannelPush, `say "a\b"`, `say \"a\\b\"`},
		{api.ChannelPush, "a\nb\tc\r", `a\nb\tc\u000d`},
		{api.ChannelPush, "\x00\x01\x08\x0c\x0f\x10\x1b\x1f \x7f\x80", `\u0000\u0001\u0008\u000c\u000f\u0010\u001b\u001f \u007f` + "\x80"},
		{api.ChannelPush, "caf\u00e9 \xff", "caf\u00e9 \xff"},
		{api.ChannelPush, `\n\u0001`, `\\n\\u0001`},
		{api.ChannelEmail, "", ""},
		{api.ChannelEmail, `<a href="x">R&D's</a>`, "&lt;a href=&quot;x&quot;&gt;R&amp;D&#39;s&lt;/a&gt;"},
		{api.ChannelEmail, "&lt;&amp;", "&amp;lt;&amp;amp;"},
		{api.ChannelEmail, "a\n\tb\x00\x7f\\ caf\u00e9 \xff", "a\n\tb\x00\x7f\\ caf\u00e9 \xff"},
		{api.ChannelSms, "", ""},
		{api.ChannelSms, `some text, "and" <more> & 'so' \on~`, `some text, "and" <more> & 'so' \on~`},
		{api.ChannelSms, "a\nb\tc\n\n\t\td", "a b c    d"},
		{api.ChannelSms, "caf\u00e9!", "caf?!"},
		{api.ChannelSms, "\u00e9", "?"},
		{api.ChannelSms, "\u00e9\u00e8a\u00e9", "?a?"},
		{api.ChannelSms, "\x00\x1f\x7f\x80\xff\rx", "?x"},
		{api.ChannelSms, "\u00e9\n\u00e9\t\u00e9 \u00e9", "? ? ? ?"},
		{api.ChannelSms, "\u00e9?\u00e9??", "?????"},
		{api.ChannelSms, "\r\n", "? "},
	} {
		if s, err := esc.To(c.channel, c.s); s != c.want || err != api.OK {
			t.Errorf("To(%d, %q) is %q, %d, not %q", c.channel, c.s, s, err, c.want)
		}
	}
}

func TestToTellsAllTexts(t *testing.T) { // 13.1
	for _, c := range channels {
		for _, s := range texts() {
			if got, err := esc.To(c, s); got != want(c, s) || err != api.OK {
				t.Fatalf("To(%d, %q) is %q, %d, not %q", c, s, got, err, want(c, s))
			}
		}
	}
}

func TestFromTellsSomeTexts(t *testing.T) { // 13.1
	for _, c := range []struct {
		channel api.Channel
		s, want string
	}{
		{api.ChannelPush, "", ""},
		{api.ChannelPush, `say \"a\\b\"`, `say "a\b"`},
		{api.ChannelPush, `a\nb\tc\u000d\u007f\u0000`, "a\nb\tc\r\x7f\x00"},
		{api.ChannelPush, `\\n\\t\\u0001`, `\n\t\u0001`},
		{api.ChannelPush, "<caf\u00e9> & \x80\xff'", "<caf\u00e9> & \x80\xff'"},
		{api.ChannelEmail, "", ""},
		{api.ChannelEmail, "&lt;b", "<b"},
		{api.ChannelEmail, "&amp;&lt;&gt;&quot;&#39;", `&<>"'`},
		{api.ChannelEmail, "&amp;lt;", "&lt;"},
		{api.ChannelEmail, "a\\\n\t\x00\x7f;\u00e9\xff", "a\\\n\t\x00\x7f;\u00e9\xff"},
		{api.ChannelSms, "", ""},
		{api.ChannelSms, ` a?&amp;\n"~`, ` a?&amp;\n"~`},
	} {
		if s, err := esc.From(c.channel, c.s); s != c.want || err != api.OK {
			t.Errorf("From(%d, %q) is %q, %d, not %q", c.channel, c.s, s, err, c.want)
		}
	}
}

func TestFromRefusesWhatIsNoTexts(t *testing.T) { // 13.1
	for c, l := range map[api.Channel][]string{
		api.ChannelPush: {
			`"`, `a"b`, `\`, `ab\`, `\\\`, `\a`, `\r`, `\N`, `\/`, `\'`, `\0`, `\ `, "\\\n", "\n", "\t", "\x00", "a\x1fb", "\x7f",
			`\u`, `\u0`, `\u00`, `\u000`, `\u00g0`, `\u001G`, `\u00+1`, `\u00-1`, `\u001_`, `\u00 1`, `\u00` + "\u00e9",
			`\u000a`, `\u0009`, `\u0022`, `\u005c`, `\u0020`, `\u0041`, `\u007e`, `\u0080`, `\u00ff`, `\u000A`, `\u000D`, `\u001F`, `\u007F`,
			`\u0101`, `\uff01`, `\U0001`, `\x01`, `u0001"`,
		},
		api.ChannelEmail: {
			"&", "a&", "&&", "&amp", "& amp;", "&amp ;", "&AMP;", "&Lt;", "&lt", "&;", "&#;", "&#38;", "&#039;", "&#x27;", "&#39", "&apos;", "&nbsp;",
			"<", ">", `"`, "'", "a<b", "a>b", "&lt;b>", "it's", "&amp;&", "&&amp;",
		},
		api.ChannelSms: {"\n", "\t", "a\nb", "\x00", "\x1f", "\x7f", "\x80", "\xff", "caf\u00e9", "a\r"},
	} {
		for _, s := range l {
			if text, err := esc.From(c, s); text != "" || err != api.ErrCode {
				t.Errorf("From(%d, %q) is %q, %d, not ErrCode", c, s, text, err)
			}
		}
	}
}

// ones are how the bytes of a text stand for a channel.
var ones = map[api.Channel]*regexp.Regexp{
	api.ChannelPush:  regexp.MustCompile(`\\["\\nt]|\\u00(?:0[0-8b-f]|1[0-9a-f]|7f)|[^\x00-\x1f"\\\x7f]`),
	api.ChannelEmail: regexp.MustCompile(`&(?:amp|lt|gt|quot|#39);|[^&<>"']`),
	api.ChannelSms:   regexp.MustCompile(`[ -~]`),
}

// checkFrom holds From of s against the text that its bytes tell, if they are it all.
func checkFrom(t *testing.T, c api.Channel, s string) {
	t.Helper()
	told := ones[c].FindAllString(latin(s), -1)
	wanted, no := "", api.ErrCode
	if strings.Join(told, "") == latin(s) {
		no = api.OK
		for _, one := range told {
			wanted += byteOf(c, bytesOf(one))
		}
	}
	if text, err := esc.From(c, s); text != wanted || err != no {
		t.Fatalf("From(%d, %q) is %q, %d, not %q, %d", c, s, text, err, wanted, no)
	}
}

// byteOf is the byte that is told so.
func byteOf(c api.Channel, told string) string {
	for _, b := range bytes() {
		if len(told) > 1 && want(c, b) == told {
			return b
		}
	}
	return told
}

func TestFromTellsAllShortTexts(t *testing.T) { // 13.1
	for c, pieces := range map[api.Channel][]string{
		api.ChannelPush:  {`\`, `"`, "n", "t", "u", "u00", "0", "1", "7", "a", "f", "F", " ", "\n", "\x7f", "\xc3"},
		api.ChannelEmail: {"&", "&amp;", "&lt", "amp", "gt", "quot", "#39", "39", ";", "<", `"`, "'", "a", "A", "\n", "\xc3"},
		api.ChannelSms:   {"a", " ", "~", "?", "\n", "\t", "\x1f", "\x7f", "\x80", `\`},
	} {
		for _, s := range strung(pieces, 4) {
			checkFrom(t, c, s)
		}
		for _, s := range strung(bytes(), 1) {
			checkFrom(t, c, s)
			checkFrom(t, c, "a"+s+"b")
			checkFrom(t, c, `\`+s)
			checkFrom(t, c, "&"+s)
		}
	}
}

func TestFromTellsAllDigits(t *testing.T) { // 13.1
	for n := range 256 {
		for _, form := range []string{`\u00%02x`, `\u00%02X`, `\u01%02x`, `\x%02x`, `a\u00%02xf`} {
			checkFrom(t, api.ChannelPush, fmt.Sprintf(form, n))
		}
		checkFrom(t, api.ChannelEmail, fmt.Sprintf("&#%d;", n))
	}
}

func TestTextsThereAndBack(t *testing.T) { // 13.1, 13.4
	for _, c := range channels[:2] {
		seen := map[string]string{}
		for _, s := range texts() {
			put, _ := esc.To(c, s)
			if back, err := esc.From(c, put); back != s || err != api.OK {
				t.Fatalf("From(%d, %q) is %q, %d, not %q", c, put, back, err, s)
			}
			if other, is := seen[put]; is && other != s {
				t.Fatalf("To of %q and of %q is %q", s, other, put)
			}
			seen[put] = s
		}
	}
}

func TestShortTextsStayAsTheyAre(t *testing.T) { // 13.1
	for _, s := range texts() {
		put, _ := esc.To(api.ChannelSms, s)
		if back, err := esc.From(api.ChannelSms, put); back != put || err != api.OK {
			t.Fatalf("From(%q) is %q, %d", put, back, err)
		}
		if again, err := esc.To(api.ChannelSms, put); again != put || err != api.OK {
			t.Fatalf("To(%q) is %q, %d", put, again, err)
		}
	}
}

func TestTextsAreSafe(t *testing.T) { // 13.5
	safe := map[api.Channel]*regexp.Regexp{
		api.ChannelPush:  regexp.MustCompile(`^(?:[^\x00-\x1f"\\]|\\[^\x00-\x1f])*$`),
		api.ChannelEmail: regexp.MustCompile(`^[^<>]*$`),
		api.ChannelSms:   regexp.MustCompile(`^[ -~]*$`),
	}
	for c, is := range safe {
		for _, s := range texts() {
			if put, err := esc.To(c, s); !is.MatchString(latin(put)) || err != api.OK {
				t.Fatalf("To(%d, %q) is %q, %d", c, s, put, err)
			}
		}
	}
}

func TestChannelsAreTold(t *testing.T) { // 13.2
	for _, want := range []struct {
		c    api.Channel
		name string
		most int
	}{
		{api.ChannelPush, "push", 256},
		{api.ChannelEmail, "email", 2048},
		{api.ChannelSms, "sms", 160},
	} {
		if most, err := esc.Most(want.c); most != want.most || err != api.OK {
			t.Errorf("Most(%d) is %d, %d, not %d", want.c, most, err, want.most)
		}
		if name, err := esc.Name(want.c); name != want.name || err != api.OK {
			t.Errorf("Name(%d) is %q, %d, not %q", want.c, name, err, want.name)
		}
		if c, err := esc.Named(want.name); c != want.c || err != api.OK {
			t.Errorf("Named(%q) is %d, %d, not %d", want.name, c, err, want.c)
		}
	}
}

func TestNamedRefusesWhatIsNone(t *testing.T) { // 13.2
	none := []string{"", "Push", "PUSH", "pus", "pushh", " push", "push ", "push\n", "push\x00", "mail", "e-mail", "none", "any", "1", "\xff", strings.Repeat("sms", 1000)}
	for _, s := range none {
		if c, err := esc.Named(s); c != 0 || err != api.ErrName {
			t.Errorf("Named(%.50q) is %d, %d, not ErrName", s, c, err)
		}
	}
}

func TestThereAreNoOtherChannels(t *testing.T) { // 13.1, 13.2
	for _, c := range noChannels() {
		for _, s := range []string{"", "a", "\n", "<", `"`} {
			if put, err := esc.To(c, s); put != "" || err != api.ErrRange {
				t.Errorf("To(%d, %q) is %q, %d, not ErrRange", c, s, put, err)
			}
			if text, err := esc.From(c, s); text != "" || err != api.ErrRange {
				t.Errorf("From(%d, %q) is %q, %d, not ErrRange", c, s, text, err)
			}
		}
		if most, err := esc.Most(c); most != 0 || err != api.ErrRange {
			t.Errorf("Most(%d) is %d, %d, not ErrRange", c, most, err)
		}
		if name, err := esc.Name(c); name != "" || err != api.ErrRange {
			t.Errorf("Name(%d) is %q, %d, not ErrRange", c, name, err)
		}
	}
}

func TestLongTexts(t *testing.T) { // 13.1
	long := strings.Repeat("<a href=\"x\">caf\u00e9</a>\n\x01", 1<<15)
	for _, c := range channels {
		put, err := esc.To(c, long)
		if put != want(c, long) || err != api.OK {
			t.Errorf("To(%d) of a long text is %.100q, %d", c, put, err)
		}
		back, err := esc.From(c, put)
		if c != api.ChannelSms && back != long || c == api.ChannelSms && back != put || err != api.OK {
			t.Errorf("From(%d) of a long text is %.100q, %d", c, back, err)
		}
		if _, err := esc.From(c, put+"\x00<"); err != api.ErrCode {
			t.Errorf("From(%d) of a long text with a wrong end is %d", c, err)
		}
	}
	run := strings.Repeat("\xff", 1<<20)
	if put, err := esc.To(api.ChannelSms, run+"a"+run); put != "?a?" || err != api.OK {
		t.Errorf("To of long runs is %.100q, %d", put, err)
	}
}

func TestAnswersAreNewMemory(t *testing.T) { // 13.3
	var all []string
	for _, s := range []string{"plain", "x", "&"} {
		for _, c := range channels {
			s := strings.Clone(s)
			for range 2 {
				put, _ := esc.To(c, s)
				text, _ := esc.From(c, put)
				name, _ := esc.Name(c)
				all = append(all, put, text, name)
			}
			all = append(all, s)
		}
	}
	seen := map[*byte]bool{}
	for _, s := range all {
		if seen[unsafe.StringData(s)] {
			t.Errorf("%q is not of new memory", s)
		}
		seen[unsafe.StringData(s)] = true
	}
}

func TestAnswersHangOnArgumentsAlone(t *testing.T) { // 13.3
	some := texts()[60000:]
	for _, c := range channels {
		var one, two []string
		for range 2 {
			one, two = two, nil
			for _, s := range some {
				put, _ := esc.To(c, s)
				text, _ := esc.From(c, s)
				two = append(two, put, text)
			}
		}
		if !slices.Equal(one, two) {
			t.Errorf("of channel %d the answers are others the second time", c)
		}
	}
}
