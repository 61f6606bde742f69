package command_test

import (
	"encoding/binary"
	"math"
	"math/rand"
	"reflect"
	"strings"

	"compline/api"
)

// fields are those of a kind, in the order in which chapter 18 writes them.
func fields(kind int) []string {
	switch kind {
	case api.Submit:
		return []string{"Spec"}
	case api.Lease:
		return []string{"Worker"}
	case api.Renew, api.Fail:
		return []string{"Name", "Token"}
	case api.Complete:
		return []string{"Name", "Token", "Value"}
	case api.Cancel, api.Requeue, api.Forget:
		return []string{"Name"}
	case api.Tick:
		return []string{"Value"}
	}
	return nil
}

// only is a command with its kind's fields.
func only(c api.Command) api.Command {
	o := api.Command{Kind: c.Kind}
	for _, name := range fields(c.Kind) {
		reflect.ValueOf(&o).Elem().FieldByName(name).Set(reflect.ValueOf(c).FieldByName(name))
	}
	return o
}

// written is a value's bytes by the words of chapters 1 and 14, behind others.
func written(b []byte, v reflect.Value) []byte {
	switch v.Kind() {
	case reflect.String:
		return append(binary.AppendUvarint(b, uint64(v.Len())), v.String()...)
	case reflect.Int, reflect.Int64:
		return binary.AppendVarint(b, v.Int())
	case reflect.Uint64:
		return binary.AppendUvarint(b, v.Uint())
	case reflect.Slice:
		b = binary.AppendUvarint(b, uint64(v.Len()))
		for i := range v.Len() {
			b = written(b, v.Index(i))
		}
		return b
	case reflect.Struct:
		for i := range v.NumField() {
			b = written(b, v.Field(i))
		}
		return b
	}
	panic("a field of a kind without bytes")
}

// numbers are some, one behind the other.
func numbers(l ...uint64) []byte {
	var b []byte
	for _, x := range l {
		b = binary.AppendUvarint(b, x)
	}
	return b
}

// requestBytes is the model of Bytes, however many bytes they are.
func requestBytes(q api.Request) []byte {
	b := numbers(q.Client, q.Number, uint64(q.C.Kind))
	for _, name := range fields(q.C.Kind) {
		b = written(b, reflect.ValueOf(q.C).FieldByName(name))
	}
	return b
}

// answerBytes is the model of Answer.
func answerBytes(a api.Answer) []byte {
	b := numbers(uint64(int64(a.Error)))
	b = written(b, reflect.ValueOf(a.Name))
	b = written(b, reflect.ValueOf(a.Token))
	return written(b, reflect.ValueOf(a.Value))
}

// source is bytes that are read by the words of chapter 1, and the first error.
type source struct {
	b []byte
	e api.Errno
}

func (s *source) fail(e api.Errno) {
	if s.e == api.OK {
		s.e = e
	}
}

func (s *source) num() uint64 {
	if s.e != api.OK {
		return 0
	}
	for i := 0; i < len(s.b); i++ {
		if i == 9 && s.b[i] > 1 || i > 0 && s.b[i] == 0 {
			s.fail(api.ErrForm)
			return 0
		}
		if s.b[i] < 128 {
			x, n := binary.Uvarint(s.b)
			s.b = s.b[n:]
			return x
		}
	}
	s.fail(api.ErrShort)
	return 0
}

func (s *source) signed() int64 {
	x := s.num()
	if x%2 == 0 {
		return int64(x / 2)
	}
	return -int64(x/2) - 1
}

func (s *source) count(most uint64) int {
	n := s.num()
	if n > most {
		s.fail(api.ErrLong)
	}
	if s.e != api.OK {
		return 0
	}
	return int(n)
}

func (s *source) text() string {
	n := s.count(255)
	if n > len(s.b) {
		s.fail(api.ErrShort)
	}
	if s.e != api.OK {
		return ""
	}
	t := string(s.b[:n])
	s.b = s.b[n:]
	return t
}

func (s *source) end() api.Errno {
	if len(s.b) > 0 {
		s.fail(api.ErrLong)
	}
	return s.e
}

func (s *source) spec() api.Spec {
	x := api.Spec{Name: s.text(), Tenant: s.text(), Priority: int(s.signed()), Delay: s.signed()}
	for range s.count(255) {
		x.Deps = append(x.Deps, s.text())
	}
	x.Base, x.Cap, x.Attempts, x.Lease = s.signed(), s.signed(), int(s.signed()), s.signed()
	x.Cron, x.Catch = s.text(), int(s.signed())
	return x
}

// requestOf is the model of Of.
func requestOf(b []byte) (api.Request, api.Errno) {
	if len(b) > 900 {
		return api.Request{}, api.ErrLong
	}
	s := &source{b: b}
	q := api.Request{Client: s.num(), Number: s.num()}
	kind := s.num()
	if kind > 9 {
		kind = 10
	}
	q.C.Kind = int(kind)
	for _, name := range fields(q.C.Kind) {
		switch name {
		case "Spec":
			q.C.Spec = s.spec()
		case "Worker":
			q.C.Worker = s.text()
		case "Name":
			q.C.Name = s.text()
		case "Token":
			q.C.Token = s.num()
		case "Value":
			q.C.Value = s.signed()
		}
	}
	if e := s.end(); e != api.OK {
		return api.Request{}, e
	}
	if kind == 10 {
		return api.Request{}, api.ErrForm
	}
	return q, api.OK
}

// answerOf is the model of AnswerOf.
func answerOf(b []byte) (api.Answer, api.Errno) {
	s := &source{b: b}
	number := s.num()
	a := api.Answer{Name: s.text(), Token: s.num(), Value: s.signed()}
	if e := s.end(); e != api.OK {
		return api.Answer{}, e
	}
	if number >= 1<<31 {
		return api.Answer{}, api.ErrForm
	}
	a.Error = api.Errno(number)
	return a, api.OK
}

// rightMembers is the model of who may be members, cause by cause.
func rightMembers(l []int) bool {
	if len(l) == 0 || len(l) > 7 {
		return false
	}
	for i, n := range l {
		if n < 1 || n > 7 || i > 0 && n <= l[i-1] {
			return false
		}
	}
	return true
}

// membersOf is the model of MembersOf.
func membersOf(b []byte) ([]int, api.Errno) {
	s := &source{b: b}
	var l []int
	for range s.count(7) {
		l = append(l, int(min(s.num(), 1000)))
	}
	if e := s.end(); e != api.OK {
		return nil, e
	}
	if !rightMembers(l) {
		return nil, api.ErrForm
	}
	return l, api.OK
}

// alike is whether two requests are the same, nil and empty lists being the same.
func alike(a, b api.Request) bool {
	if len(a.C.Spec.Deps) == 0 && len(b.C.Spec.Deps) == 0 {
		a.C.Spec.Deps, b.C.Spec.Deps = nil, nil
	}
	return reflect.DeepEqual(a, b)
}

// alikeCommands is likewise of commands.
func alikeCommands(a, b api.Command) bool { return alike(api.Request{C: a}, api.Request{C: b}) }

// texts are any ones that can be read.
func texts() []string {
	return []string{"", "a", "nightly", "\x00", "\xff\xfe", "日本", "A B", strings.Repeat("x", 127), strings.Repeat("y", 128), strings.Repeat("\xf0", 255)}
}

// ends are numbers at theirs.
func ends() []int64 {
	return []int64{0, 1, -1, 2, -2, 63, 64, -64, -65, 127, 128, -128, 1 << 20, 1 << 40, -1 << 40, math.MaxInt32, math.MinInt32, 1 << 32, math.MaxInt64, math.MinInt64}
}

// full is a command each of whose fields has a value of its own.
func full(kind int) api.Command {
	return api.Command{Kind: kind, Name: "ab", Worker: "c", Token: 300, Value: -5, Spec: fullSpec()}
}

func fullSpec() api.Spec {
	return api.Spec{Name: "de", Tenant: "f", Priority: 1, Delay: -2, Deps: []string{"g", "", "hi"}, Base: 3, Cap: 300, Attempts: -5, Lease: 6, Cron: "j", Catch: 7}
}

// chanceText is any text that can be read.
func chanceText(r *rand.Rand) string {
	if r.Intn(2) == 0 {
		return texts()[r.Intn(len(texts()))]
	}
	b := make([]byte, r.Intn(30))
	r.Read(b)
	return string(b)
}

// chanceNumber is any number, small ones and those at the ends more often.
func chanceNumber(r *rand.Rand) int64 {
	if r.Intn(2) == 0 {
		return ends()[r.Intn(len(ends()))]
	}
	return int64(r.Uint64() >> r.Intn(64))
}

// chanceCommand is any command of a kind that there is.
func chanceCommand(r *rand.Rand) api.Command {
	c := api.Command{Kind: r.Intn(api.Kinds), Name: chanceText(r), Worker: chanceText(r), Token: uint64(chanceNumber(r)), Value: chanceNumber(r)}
	if r.Intn(3) == 0 {
		c.Kind = api.Submit
	}
	c.Spec = api.Spec{Name: chanceText(r), Tenant: chanceText(r), Priority: int(chanceNumber(r)), Delay: chanceNumber(r), Base: chanceNumber(r), Cap: chanceNumber(r), Attempts: int(chanceNumber(r)), Lease: chanceNumber(r), Cron: chanceText(r), Catch: int(chanceNumber(r))}
	for range r.Intn(10) {
		c.Spec.Deps = append(c.Spec.Deps, chanceText(r))
	}
	return c
}
