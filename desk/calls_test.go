package desk_test

import (
	"go/ast"
	"go/parser"
	"go/token"
	"math"
	"math/rand"
	"path/filepath"
	"reflect"
	"runtime/debug"
	"slices"
	"strconv"
	"strings"
	"testing"

	"sealring/api"
	"sealring/block"
	"sealring/curve"
	"sealring/dag"
	"sealring/desk"
	"sealring/inbox"
	"sealring/keyring"
	"sealring/outbox"
	"sealring/prime"
	"sealring/room"
	"sealring/sha2"
	"sealring/sha5"
	"sealring/state"
	"sealring/tree"
	"sealring/wide"
)

// giver gives arguments of any type, the same ones again to whoever begins with the same number.
type giver struct {
	*rand.Rand
	texts []string
	nodes []node
}

// stock are texts and nodes that calls may be given: such as they take, and such as they don't.
func stock(t *testing.T) giver {
	t.Helper()
	texts := strings.Fields("a.b o [::1]:80 a..b 1.2.3.4 a.b:70000 @s:a.b !r:o $e:a.b @S:a.b ed25519:1 ed25519:k ed25519: m.* * ** m.room.member m.room.create m.room.power_levels x type sender content prev_events event_id signatures sha256 edu_type m.typing join leave /a/0 /a~1b/~0 /~2 a 0 1 -1 007 12 -0 9007199254740992 true false nul [] {} [1,2] [[[]]] \"a\" \"\\u00e9\" \"\\ud83d\\ude00\" \"\\x\" {\"a\":1,\"a\":2} show version version\x203 { } [ , : \\ \"")
	texts = append(texts, "", " ", "\x00", "\xff", "é", "\U0001f600", "\xed\xa0\x80", "version 5\nshow\nnothing\n", seedOf(1), publicOf(1), string(seed(1)), public(1), string(make([]byte, 64)), base64Of(make([]byte, 32)), base64Of(make([]byte, 64)), "$"+strings.Repeat("A", 43), strings.Repeat("a", 231), strings.Repeat("[", 100), strings.Repeat("ab ", 500), "seed a.b ed25519:1 "+seedOf(1)+"\nsign a.b ed25519:1 "+seedOf(1)+" {}")
	g := giver{texts: texts}
	for v := 1; v <= 11; v += 2 {
		for i := range 3 {
			g.nodes = append(g.nodes, read(t, form(t, whole(t, v, i))), read(t, form(t, with(whole(t, v, i), "body", "b"))), read(t, form(t, naming(t, v, i+3, idOf(t, v, whole(t, v, i))))))
		}
		s := txnOf(t, mixed(t, v), eduOf("x"))
		g.texts = append(g.texts, s, s[:len(s)/2], "txn "+s, form(t, whole(t, v, 1)))
		g.nodes = append(g.nodes, read(t, s))
	}
	for _, kind := range []string{"m.room.create", "m.room.member", "m.room.power_levels"} {
		g.nodes = append(g.nodes, read(t, form(t, signed(t, 11, 1, hashed(t, with(bare(11, 1), "type", kind, "state_key", "", "content", fields{"users": fields{"@s:a.b": 100}, "membership": "join"}))))))
	}
	g.nodes = append(g.nodes, nested(3000, true), nested(100, false), node{}, node{Kind: 6, L: make([]node, 3)}, node{Kind: 6, K: make([]string, 3)}, node{Kind: -1, N: math.MinInt64, S: "\xff", K: []string{"a", "a"}, L: make([]node, 1)})
	return g
}

// nested is a node in so many lists, first or last in each.
func nested(lists int, first bool) node {
	n := node{Kind: api.Null}
	for range lists {
		if first {
			n = node{Kind: api.List, L: []node{n, {Kind: api.Null}}}
		} else {
			n = node{Kind: api.List, L: []node{{Kind: api.Null}, n}}
		}
	}
	return n
}

func (g giver) text() string {
	switch s := g.texts[g.Intn(len(g.texts))]; g.Intn(8) {
	case 0:
		b := make([]byte, g.Intn(40))
		for i := range b {
			b[i] = byte(g.Intn(256))
		}
		return string(b)
	case 1:
		return s + g.texts[g.Intn(len(g.texts))]
	case 2:
		return changed(g.Rand, s+" ")
	default:
		return s
	}
}

func (g giver) number() int64 {
	l := []int64{0, 1, 2, 3, 4, 5, 6, 7, 8, 9, 10, 11, 1, 3, 6, 11, 12, 16, 20, 32, 50, 64, 100, 128, 200, 255, 256, 1000, 65535, 1 << 40, 1<<40 + 1, api.MaxInt, api.MaxInt + 1, -1, -2, -64, math.MaxInt64, math.MinInt64, math.MinInt64 + 1}
	return l[g.Intn(len(l))]
}

func (g giver) node(deep int) node {
	switch g.Intn(6) {
	case 0, 1, 2:
		n := g.nodes[g.Intn(len(g.nodes))]
		if g.Intn(3) == 0 {
			n = tree.Put(n, g.text(), g.node(1))
		}
		return n
	case 3:
		return node{Kind: g.Intn(9) - 1, N: g.number(), S: g.text()}
	}
	n := node{Kind: []int{5, 6}[g.Intn(2)]}
	for range g.Intn(4) {
		if deep > 0 {
			n.K, n.L = append(n.K, g.text()), append(n.L, g.node(deep-1))
		}
	}
	if n.Kind == 5 && g.Intn(4) > 0 {
		n.K = nil
	}
	return n
}

func (g giver) ring() *keyring.Ring {
	r := keyring.New()
	switch g.Intn(5) {
	case 0:
		return nil
	case 1:
		return r
	}
	r.Put("a.b", "ed25519:1", public(1))
	r.Put("a.b", "ed25519:2", public(2))
	return r
}

func (g giver) nodesOf(many int) []node {
	var l []node
	for range g.Intn(many) {
		l = append(l, g.node(2))
	}
	return l
}

// special are what values of some types are that can't be put together field by field.
func (g giver) special(kind reflect.Type) (any, bool) {
	switch kind {
	case reflect.TypeFor[node]():
		return g.node(2), true
	case reflect.TypeFor[prime.El]():
		return prime.Mod(wide.Num{g.Uint64(), g.Uint64(), g.Uint64(), g.Uint64()}), true
	case reflect.TypeFor[curve.Point]():
		return []curve.Point{{}, curve.Zero(), curve.Base(), curve.Double(curve.Base())}[g.Intn(4)], true
	case reflect.TypeFor[*keyring.Ring]():
		return g.ring(), true
	case reflect.TypeFor[*room.Room]():
		r, _ := room.New(int(g.number()), g.ring())
		r.Add(g.nodesOf(4)...)
		return r, true
	case reflect.TypeFor[*dag.Graph]():
		x, _ := dag.Of(int(g.number()), g.nodesOf(3)...)
		return x, true
	case reflect.TypeFor[*state.State]():
		x, _ := state.Of(int(g.number()), g.nodesOf(3)...)
		return x, true
	}
	return nil, false
}

// value is one of that type.
func (g giver) value(t *testing.T, kind reflect.Type) reflect.Value {
	t.Helper()
	if x, ok := g.special(kind); ok {
		return reflect.ValueOf(x)
	}
	v := reflect.New(kind).Elem()
	switch kind.Kind() {
	case reflect.Bool:
		v.SetBool(g.Intn(2) == 0)
	case reflect.Int, reflect.Int64, reflect.Int32:
		v.SetInt(g.number())
	case reflect.Uint64, reflect.Uint32:
		v.SetUint([]uint64{0, 1, math.MaxUint64, g.Uint64()}[g.Intn(4)])
	case reflect.String:
		v.SetString(g.text())
	case reflect.Slice:
		for range g.Intn(4) {
			v.Set(reflect.Append(v, g.value(t, kind.Elem())))
		}
	case reflect.Array:
		for i := range v.Len() {
			v.Index(i).Set(g.value(t, kind.Elem()))
		}
	case reflect.Map:
		v.Set(reflect.MakeMap(kind))
		for range g.Intn(4) {
			v.SetMapIndex(g.value(t, kind.Key()), g.value(t, kind.Elem()))
		}
	case reflect.Struct:
		for i := range v.NumField() {
			v.Field(i).Set(g.value(t, kind.Field(i).Type))
		}
	default:
		t.Fatalf("no values of %v", kind)
	}
	return v
}

// arguments are those of a call; the first of its parameters is left out of a method's.
func (g giver) arguments(t *testing.T, f reflect.Type) []reflect.Value {
	t.Helper()
	var l []reflect.Value
	for i := range f.NumIn() {
		l = append(l, g.value(t, f.In(i)))
	}
	return l
}

func (g giver) from(number int64) giver {
	g.Rand = rand.New(rand.NewSource(number))
	return g
}

func call(f reflect.Value, l []reflect.Value) []reflect.Value {
	if f.Type().IsVariadic() {
		return f.CallSlice(l)
	}
	return f.Call(l)
}

// plainly are results, of iterators what they tell, gone through whole, and again up to the third thing.
func plainly(l []reflect.Value) []any {
	var out []any
	for _, v := range l {
		if v.Kind() != reflect.Func {
			out = append(out, v.Interface())
			continue
		}
		for _, most := range []int{math.MaxInt, 3} {
			seen := 0
			if v.Type().In(0).NumIn() == 1 {
				for x := range v.Seq() {
					if out, seen = append(out, x.Interface()), seen+1; seen == most {
						break
					}
				}
				continue
			}
			for x, y := range v.Seq2() {
				if out, seen = append(out, x.Interface(), y.Interface()), seen+1; seen == most {
					break
				}
			}
		}
	}
	return out
}

// besides are the calls that tell something beside an error.
var besides = strings.Fields("parse.Parse decode.Decode decode.Reads field.Check schema.Check edu.Check frame.Read encode.Encode lex.Next lex.Tokens curve.Make pcode.Decode")

// empty: is a result that stands beside an error a zero one?
func empty(v reflect.Value) bool {
	return v.IsZero() || v.Kind() == reflect.Slice && v.Len() == 0
}

// looksWell asks what holds of all that calls answer.
func looksWell(t *testing.T, name string, out []reflect.Value) {
	t.Helper()
	if len(out) == 0 {
		return
	}
	wrong := false
	switch last := out[len(out)-1]; last.Type() {
	case reflect.TypeFor[api.Errno]():
		wrong = last.Int() != 0
		if last.Int() < 0 || last.Int() > 26 {
			t.Errorf("%s: the error %d", name, last.Int())
		}
	case reflect.TypeFor[bool]():
		wrong = !last.Bool() && name != "dag.Order" && name != "trail.Put" && name != "keep.Content"
	}
	for _, v := range out[:len(out)-1] {
		if wrong && !slices.Contains(besides, name) && !empty(v) {
			t.Errorf("%s: %v beside an error", name, v)
		}
	}
}

// safely does what may panic.
func safely(t *testing.T, name string, do func()) {
	t.Helper()
	defer func() {
		if x := recover(); x != nil {
			t.Errorf("%s: panics: %v", name, x)
		}
	}()
	do()
}

// Each call ends, doesn't panic, answers the same again, and leaves what it is given as it was.
func TestP7EveryCall(t *testing.T) {
	t.Parallel()
	g := stock(t)
	number := int64(7)
	for pack, l := range calls() {
		for short, f := range l {
			name, f := pack+"."+short, reflect.ValueOf(f)
			for range 40 {
				number++
				safely(t, name, func() {
					given := g.from(number).arguments(t, f.Type())
					out := call(f, given)
					looksWell(t, name, out)
					got, again := plainly(out), plainly(call(f, g.from(number).arguments(t, f.Type())))
					if !reflect.DeepEqual(got, again) {
						t.Errorf("%s: %v, and then %v, of %v", name, got, again, given)
					}
					for i, v := range g.from(number).arguments(t, f.Type()) {
						if v.Kind() != reflect.Pointer && !reflect.DeepEqual(v.Interface(), given[i].Interface()) {
							t.Errorf("%s: changes what it is given: %v, not %v", name, given[i], v)
						}
					}
				})
			}
		}
	}
}

// objects are the makers of objects, by the packages of their types.
func objects(t *testing.T) map[string]func(g giver) any {
	return map[string]func(g giver) any{
		"block":   func(g giver) any { return block.New(int(g.number())) },
		"sha2":    func(g giver) any { return []*sha2.Hash{nil, sha2.New()}[g.Intn(2)] },
		"sha5":    func(g giver) any { return []*sha5.Hash{nil, sha5.New()}[g.Intn(2)] },
		"wide":    func(g giver) any { return g.value(t, reflect.TypeFor[wide.Num]()).Interface() },
		"curve":   func(g giver) any { return curve.NewAdder() },
		"keyring": func(g giver) any { return g.ring() },
		"dag":     func(g giver) any { return g.value(t, reflect.TypeFor[*dag.Graph]()).Interface() },
		"room":    func(g giver) any { return g.value(t, reflect.TypeFor[*room.Room]()).Interface() },
		"state":   func(g giver) any { return g.value(t, reflect.TypeFor[*state.State]()).Interface() },
		"inbox": func(g giver) any {
			b, _ := inbox.New(int(g.number()), g.ring(), int(g.number()))
			return b
		},
		"outbox": func(g giver) any {
			b, _ := outbox.New(int(g.number()), g.text())
			return b
		},
		"desk": func(g giver) any {
			d := desk.New()
			d.Do("version " + strconv.Itoa(g.Intn(12)))
			d.Do("seed a.b ed25519:1 " + seedOf(1))
			return d
		},
	}
}

// Of objects the calls one behind the other do so, too.
func TestP7EveryMethod(t *testing.T) {
	t.Parallel()
	g := stock(t)
	for pack, maker := range objects(t) {
		for number := range int64(40) {
			first, second := maker(g.from(number)), maker(g.from(number))
			kind := reflect.TypeOf(first)
			for step := range int64(12) {
				at := 1000*number + step
				i := g.from(at).Intn(kind.NumMethod())
				name := pack + "." + kind.Method(i).Name
				if name == "sha2.Rest" || name == "sha5.Rest" { // the buffer's, of which the hashes' chapters don't speak
					continue
				}
				safely(t, name, func() {
					f := reflect.ValueOf(first).Method(i)
					given := g.from(at).arguments(t, f.Type())
					out := call(f, given)
					looksWell(t, name, out)
					got, again := plainly(out), plainly(call(reflect.ValueOf(second).Method(i), g.from(at).arguments(t, f.Type())))
					if !reflect.DeepEqual(got, again) {
						t.Errorf("%s: %v, of another one %v", name, got, again)
					}
					for i, v := range g.from(at).arguments(t, f.Type()) {
						if v.Kind() != reflect.Pointer && !reflect.DeepEqual(v.Interface(), given[i].Interface()) {
							t.Errorf("%s: changes what it is given: %v, not %v", name, given[i], v)
						}
					}
				})
			}
			if !reflect.DeepEqual(first, second) {
				t.Errorf("%s: two that are done the same to aren't the same", pack)
			}
		}
	}
}

// deepen puts a node in the place of all that are in a value; whether there was one is told.
func deepen(v reflect.Value, n node) bool {
	if v.Type() == reflect.TypeFor[node]() {
		v.Set(reflect.ValueOf(n))
		return true
	}
	done := false
	switch v.Kind() {
	case reflect.Slice:
		for i := range v.Len() {
			done = deepen(v.Index(i), n) || done
		}
	case reflect.Struct:
		for i := range v.NumField() {
			done = v.Type().Field(i).IsExported() && deepen(v.Field(i), n) || done
		}
	}
	return done
}

// How deep what is given nests tells on no call's stack.
func TestP7Deep(t *testing.T) {
	g := stock(t).from(77)
	defer debug.SetMaxStack(debug.SetMaxStack(1 << 20))
	deep := []node{nested(100000, true), nested(100000, false), {Kind: api.Map, K: []string{"content", "prev_events", "event_id"}, L: []node{nested(100000, true), nested(100000, false), {Kind: api.Text, S: "$a:b"}}}}
	for pack, l := range calls() {
		for short, f := range l {
			name, f := pack+"."+short, reflect.ValueOf(f)
			for _, n := range deep {
				var given []reflect.Value
				some := false
				for _, v := range g.arguments(t, f.Type()) {
					x := reflect.New(v.Type()).Elem()
					x.Set(v)
					some = deepen(x, n) || some
					given = append(given, x)
				}
				if some {
					safely(t, name, func() { plainly(call(f, given)) })
				}
			}
		}
	}
	d := deskOf(t, 11)
	for _, s := range []string{"[", `{"a":`, "[0,", "]", `"`} {
		for _, word := range []string{"event ", "id ", "txn ", "sign a.b ed25519:1 " + seedOf(1) + " "} {
			d.Do(word + strings.Repeat(s, 100000))
		}
	}
}

// The list of calls has all that the packages have.
func TestP7CallsAreAll(t *testing.T) {
	for pack, l := range calls() {
		files, _ := filepath.Glob(filepath.Join("..", pack, "*.go"))
		for _, name := range files {
			if strings.HasSuffix(name, "_test.go") {
				continue
			}
			file, e := parser.ParseFile(token.NewFileSet(), name, nil, 0)
			if e != nil {
				t.Fatal(e)
			}
			for _, d := range file.Decls {
				if f, ok := d.(*ast.FuncDecl); ok && f.Recv == nil && f.Name.IsExported() && l[f.Name.Name] == nil {
					t.Errorf("%s.%s isn't called", pack, f.Name.Name)
				}
			}
		}
	}
}
