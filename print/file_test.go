package print_test

import (
	"strings"
	"testing"

	"maskwright/api"
	"maskwright/parse"
	"maskwright/print"
	"maskwright/syntax"
)

// P7.3

// read reads a source that is right.
func read(t *testing.T, text string) syntax.File {
	t.Helper()
	f, l, e := parse.File(source(text))
	if e != api.OK {
		t.Fatalf("%q: %v %v", text, l, e)
	}
	return f
}

// printed tests what the text of a source is.
func printed(t *testing.T, text, want string) {
	t.Helper()
	f := read(t, text)
	s, e := print.File(f)
	if e != api.OK || s != want {
		t.Errorf("%v\n%s\ninstead of\n%s", e, s, want)
	}
	if !syntax.SameFile(read(t, s), f) {
		t.Errorf("read as another tree:\n%s", s)
	}
}

// inside returns the lines of a text with two blanks before each of them for each pair of braces around it.
func inside(braces int, text string) string {
	blanks := strings.Repeat("  ", braces)
	return blanks + strings.ReplaceAll(text, "\n", "\n"+blanks) + "\n"
}

func TestItems(t *testing.T) {
	for text, want := range map[string]string{
		"":              "",
		"module m(){}":  "module m () {\n}\n",
		"const a=b+1;":  "const a = b + 1;\n",
		"const if_=-1;": "const if_ = -1;\n",
		"module \\in #(n=1,\\out =2)(in clk,in signed x,in[n:0]y,in signed[1:0]z,in t u,out v,out \\var \\1 ){wire a;}": "module \\in  #(n = 1, \\out  = 2) (in clk, in signed x, in [n:0] y, in signed [1:0] z, in t u, out v, out \\var  \\1 ) {\n  wire a;\n}\n",
		"module m(out var a,out var[3:0]b=c?d:e,out var t x=1,i.v p,\\if .\\in \\of ){}":                                "module m (out var a, out var [3:0] b = c ? d : e, out var t x = 1, i.v p, \\if .\\in  of) {\n}\n",
		"interface i{}": "interface i {\n}\n",
		"interface i#(a=(1),b=2){wire t c;view v(in c);view \\view (out c,in \\c2 ,out \\wire );}": "interface i #(a = 1, b = 2) {\n  wire t c;\n  view v (in c);\n  view \\view  (out c, in c2, out \\wire );\n}\n",
		"enum[1:0]e{a}":                           "enum [1:0] e { a }\n",
		"enum[n-1:a?b:c]e{a,b=1,\\; =(2),\\if }":  "enum [n - 1:a ? b : c] e { a, b = 1, \\;  = 2, \\if  }\n",
		"struct s{a;[1:0]b;signed c;t d;\\if e;}": "struct s {\n  a;\n  [1:0] b;\n  signed c;\n  t d;\n  \\if  e;\n}\n",
		"function f(){}":                          "function f() {\n}\n",
		"function signed[3:0]\\for (a,signed b,t c,[1:0]d){var x;var t y=1;x=1;;{}}": "function signed [3:0] \\for (a, signed b, t c, [1:0] d) {\n  var x;\n  var t y = 1;\n  x = 1;\n  ;\n  {\n  }\n}\n",
		"function t f(x){f=x;}": "function t f(x) {\n  f = x;\n}\n",
	} {
		printed(t, text, want)
	}
}

func TestItemsInOrder(t *testing.T) {
	printed(t, "const b=1;enum[0:0]e{x}struct s{a;}function f(){}interface i{}module m(){}const a=2;",
		"const b = 1;\nenum [0:0] e { x }\nstruct s {\n  a;\n}\nfunction f() {\n}\ninterface i {\n}\nmodule m () {\n}\nconst a = 2;\n")
}

func TestMembers(t *testing.T) {
	for text, want := range map[string]string{
		"wire a;":                                "wire a;",
		"wire t a[3:0]=1,b,c=x?y:z,\\d [1:n+1];": "wire t a[3:0] = 1, b, c = x ? y : z, d[1:n + 1];",
		"wire signed[1:0]\\if [0:1],\\to =2;":    "wire signed [1:0] \\if [0:1], \\to  = 2;",
		"var a;":                                 "var a;",
		"var signed a=1,b;":                      "var signed a = 1, b;",
		"const c=1;":                             "const c = 1;",
		"enum[0:0]e{a}":                          "enum [0:0] e { a }",
		"struct s{a;}":                           "struct s {\n  a;\n}",
		"function f(){;}":                        "function f() {\n  ;\n}",
		"assign a=b;":                            "assign a = b;",
		"assign cat(a,b[1].c)=x?y:z;":            "assign cat(a, b[1].c) = x ? y : z;",
		"comb;":                                  "comb ;",
		"comb{}":                                 "comb {\n}",
		"comb a=b;":                              "comb a = b;",
		"always{a=b;}":                           "always {\n  a = b;\n}",
		"initial while(1)stop;":                  "initial while (1) stop;",
		"seq(a);":                                "seq (a) ;",
		"seq(rise a,fall b.c,\\fall [1],rise d){}":   "seq (rise a, fall b.c, \\fall [1], rise d) {\n}",
		"seq(cat(a,b))case(a){default:;}":            "seq (cat(a, b)) case (a) {\n  default: ;\n}",
		"inst u:m();":                                "inst u: m ();",
		"inst u:m#(n=1)();":                          "inst u: m #(n = 1) ();",
		"inst \\in :\\if #(a=1,b=x?y:z)(c=d,e=f+g);": "inst \\in : \\if  #(a = 1, b = x ? y : z) (c = d, e = f + g);",
		"inst u:m(a=b);":                             "inst u: m (a = b);",
		"link l:i;":                                  "link l: i;",
		"link \\link :\\to #(a=1,\\b2 =(2));":        "link \\link : \\to  #(a = 1, b2 = 2);",
		"for(i=0 to n-1):g{}":                        "for (i = 0 to n - 1) : g {\n}",
		"for(\\for =a?b:c to d?e:f):\\to {wire a;for(j=0 to 1):h{wire b;}}": "for (\\for  = a ? b : c to d ? e : f) : \\to  {\n  wire a;\n  for (j = 0 to 1) : h {\n    wire b;\n  }\n}",
		"if(a):g{}":                "if (a) : g {\n}",
		"if(a?b:c):g{wire a;}":     "if (a ? b : c) : g {\n  wire a;\n}",
		"if(a):g{}else:h{wire a;}": "if (a) : g {\n}\nelse : h {\n  wire a;\n}",
		"if(a):g{}else if(b):\\else {wire a;}else if(c):k{}":  "if (a) : g {\n}\nelse if (b) : \\else  {\n  wire a;\n}\nelse if (c) : k {\n}",
		"if(a):g{if(b):h{}else:i{}}else if(c):j{}else:k{}":    "if (a) : g {\n  if (b) : h {\n  }\n  else : i {\n  }\n}\nelse if (c) : j {\n}\nelse : k {\n}",
		"property p(rise c)a->b;":                             "property p (rise c) a -> b;",
		"property \\rise (rise c[1])a?b:c=>d||e;":             "property \\rise  (rise c[1]) a ? b : c => d || e;",
		"property p(rise cat(c))a or b and[d]->e and f or g;": "property p (rise cat(c)) a or b and d -> e and f or g;",
	} {
		printed(t, "module m(){"+text+"}", "module m () {\n"+inside(1, want)+"}\n")
	}
}

func TestStatements(t *testing.T) {
	for text, want := range map[string]string{
		";":                        ";",
		"{}":                       "{\n}",
		"{;{;}}":                   "{\n  ;\n  {\n    ;\n  }\n}",
		"if(a);":                   "if (a) ;",
		"if(a?b:c)stop;":           "if (a ? b : c) stop;",
		"if(a){stop;}else{}":       "if (a) {\n  stop;\n}\nelse {\n}",
		"if(a)b=1;else b=2;":       "if (a) b = 1;\nelse b = 2;",
		"if(a);else if(b);else;":   "if (a) ;\nelse if (b) ;\nelse ;",
		"if(a)if(b);else;else;":    "if (a) if (b) ;\nelse ;\nelse ;",
		"if(a)if(b);else;":         "if (a) if (b) ;\nelse ;",
		"if(a){if(b);}else;":       "if (a) {\n  if (b) ;\n}\nelse ;",
		"while(a);":                "while (a) ;",
		"while(a?b:c){stop;}":      "while (a ? b : c) {\n  stop;\n}",
		"repeat(n+1)repeat(2)a=b;": "repeat (n + 1) repeat (2) a = b;",
		"for(i=0 to 7);":           "for (i = 0 to 7) ;",
		"for(\\if =n-1 downto a?b:c)for(j=0 to 1){}":  "for (\\if  = n - 1 downto a ? b : c) for (j = 0 to 1) {\n}",
		"while(a)if(b)c=d;else{}":                     "while (a) if (b) c = d;\nelse {\n}",
		"case(a){}":                                   "case (a) {\n}",
		"case(a?b:c){1,b+c,(x?y:z):;default:{stop;}}": "case (a ? b : c) {\n  1, b + c, x ? y : z: ;\n  default: {\n    stop;\n  }\n}",
		"casez(a){default:if(b);else;1:;}":            "casez (a) {\n  default: if (b) ;\n  else ;\n  1: ;\n}",
		"casex(a){1:case(b){2:stop;}3:while(1)a=b;}":  "casex (a) {\n  1: case (b) {\n    2: stop;\n  }\n  3: while (1) a = b;\n}",
		"a=b;":                           "a = b;",
		"cat(a,\\if )=b?c:d;":            "cat(a, \\if ) = b ? c : d;",
		"a[1]<=b<=c;":                    "a[1] <= b <= c;",
		"a=after(2)b;":                   "a = after (2) b;",
		"a.b<=after(c?d:e)(f+g);":        "a.b <= after (c ? d : e) f + g;",
		"delay 3;":                       "delay 3;",
		"delay(a?b:c);":                  "delay a ? b : c;",
		"on(a);":                         "on (a);",
		"on(rise a,fall b,c[1]);":        "on (rise a, fall b, c[1]);",
		"wait(a?b:c);":                   "wait (a ? b : c);",
		"stop;":                          "stop;",
		"check(a?b:c);":                  "check(a ? b : c);",
		`check(a,"");`:                   `check(a);`,
		`check(a,"x \"y\" \\");`:         `check(a, "x \"y\" \\");`,
		`show("");`:                      `show("");`,
		`show("a",b,c?d:e,f+g);`:         `show("a", b, c ? d : e, f + g);`,
		`write("\\n",now);`:              `write("\\n", now);`,
		`strobe("~ ",a);`:                `strobe("~ ", a);`,
		"monitor(\"`a // /* {\",\\// );": "monitor(\"`a // /* {\", \\// );",
		"if(a)case(b){default:{}}else repeat(2){a=b;;}": "if (a) case (b) {\n  default: {\n  }\n}\nelse repeat (2) {\n  a = b;\n  ;\n}",
	} {
		printed(t, "module m(){comb "+text+"}", "module m () {\n"+inside(1, "comb "+want)+"}\n")
		printed(t, "module m(){initial {"+text+"}}", "module m () {\n  initial {\n"+inside(2, want)+"  }\n}\n")
		printed(t, "module m(){always repeat(2)"+text+"}", "module m () {\n"+inside(1, "always repeat (2) "+want)+"}\n")
		printed(t, "function f(){"+text+"}", "function f() {\n"+inside(1, want)+"}\n")
		printed(t, "module m(){seq(rise c)case(d){0:"+text+"}}", "module m () {\n  seq (rise c) case (d) {\n"+inside(2, "0: "+want)+"  }\n}\n")
	}
}

func TestSequences(t *testing.T) {
	for text, want := range map[string]string{
		"a":                               "a",
		"[a]":                             "a",
		"(a?b:c)":                         "a ? b : c",
		"a or b or d":                     "a or b or d",
		"[a or b]or d":                    "[a or b] or d",
		"a or[b or d]":                    "a or [b or d]",
		"a and b and d":                   "a and b and d",
		"a and[b and d]":                  "a and [b and d]",
		"[a and b]or[d and e]":            "a and b or d and e",
		"[a or b]and[d or e]":             "[a or b] and [d or e]",
		"a then(1)b":                      "a then (1) b",
		"a then(1)b then(x?y:z:*)d":       "a then (1) b then (x ? y : z:*) d",
		"a then(1:n+1)[b then(x:y?z:a)d]": "a then (1:n + 1) [b then (x:y ? z : a) d]",
		"[a or b]then(1)[a and b]":        "[a or b] then (1) [a and b]",
		"a times(2)":                      "a times (2)",
		"a times(2)times(0:*)":            "a times (2) times (0:*)",
		"[a then(1)b]times(2:3)":          "[a then (1) b] times (2:3)",
		"[a or b]times(2)":                "[a or b] times (2)",
		"a times(2)then(1)b times(3)and d times(4)or e": "a times (2) then (1) b times (3) and d times (4) or e",
		"a||b then(1)(c)": "a || b then (1) c",
	} {
		printed(t, "module m(){property p(rise c)"+text+"->d;}", "module m () {\n  property p (rise c) "+want+" -> d;\n}\n")
		printed(t, "module m(){property p(rise c)d=>"+text+";}", "module m () {\n  property p (rise c) d => "+want+";\n}\n")
	}
}

// sequences are all kinds of sequences, of which each has as few kids as it needs.
func sequences() []syntax.Node {
	hold := node(syntax.SeqHold, name("a"))
	return []syntax.Node{
		hold, node(syntax.SeqOr, hold, hold), node(syntax.SeqAnd, hold, hold),
		node(syntax.SeqThen, hold, name("n"), syntax.Node{}, hold), node(syntax.SeqTimes, hold, name("n"), syntax.Node{}),
	}
}

// property returns the line of a property of a sequence.
func property(t *testing.T, n syntax.Node) string {
	p := named(syntax.PropSame, "p", name("c"), n, node(syntax.SeqHold, name("d")))
	m := named(syntax.Module, "m", node(syntax.Params), node(syntax.Ports), node(syntax.Body, p))
	s, e := print.File(syntax.File{Items: []syntax.Node{m}})
	if e != api.OK {
		t.Error(e)
	}
	return strings.TrimSuffix(strings.TrimPrefix(s, "module m () {\n  property p (rise c) "), " -> d;\n}\n")
}

// A sequence in a sequence is in brackets if and only if it is read as another tree without them.
func TestBracketsThatSequencesNeed(t *testing.T) {
	seen := map[bool]int{}
	for _, outer := range sequences()[1:] {
		for i, k := range outer.Kids {
			for _, inner := range sequences() {
				if k.Kind != syntax.SeqHold {
					continue
				}
				n, hole := copyOf(outer), copyOf(outer)
				n.Kids[i], hole.Kids[i] = inner, node(syntax.SeqHold, name("hole"))
				own := property(t, inner)
				want := strings.Replace(property(t, hole), "hole", own, 1)
				m := read(t, "module m(){property p(rise c)"+want+"->d;}").Items[0].Kids[2].Kids[0].Kids[1]
				bare := syntax.Same(m, n)
				if !bare {
					want = strings.Replace(property(t, hole), "hole", "["+own+"]", 1)
				}
				if s := property(t, n); s != want {
					t.Errorf("%s instead of %s", s, want)
				}
				seen[bare]++
			}
		}
	}
	if seen[true]+seen[false] != 7*5 || seen[true] < 10 || seen[false] < 10 {
		t.Error(seen)
	}
}

// What is printed of a file in this form is the file.
func TestWholeFile(t *testing.T) {
	want := `const K = 3;
module top #(n = K) (in clk, in [n - 1:0] d, out var [n - 1:0] q = 0) {
  wire t[0:1];
  function [n - 1:0] next(x) {
    var i = 0;
    while (i < n) {
      if (x) next = i;
      else {
        next = -i;
      }
      i = i + 1;
    }
  }
  seq (rise clk) if (d == 0) {
    case (q) {
      0, 1: q <= next(q);
      default: q <= after (2) d;
    }
  }
  else check(0, "d");
  for (i = 0 to n - 1) : bits {
    if (i == 0) : first {
      assign t[0] = d[0];
    }
    else : others {
      inst u: top #(n = 1) (clk = clk);
    }
  }
}
`
	s, e := print.File(read(t, strings.ReplaceAll(want, "\n", " ")))
	if e != api.OK || s != want {
		t.Errorf("%v\n%s\ninstead of\n%s", e, s, want)
	}
}

// fileOf returns a file of constants of which the text has so many bytes.
func fileOf(bytes int) syntax.File {
	var f syntax.File
	for ; bytes > 0; bytes -= 40 {
		long := "n" + strings.Repeat("_", min(bytes, 40)-13) // const n.. = 0; and the line feed
		f.Items = append(f.Items, named(syntax.Const, long, num(32, 0, 0, true)))
	}
	return f
}

func TestErrorsOfFile(t *testing.T) {
	long := fileOf(api.MaxText + 40)
	wrong := fileOf(api.MaxText + 40)
	wrong.Items[400].Name = ""
	many := fileOf(api.MaxText + 40)
	for range 3600 {
		many.Items = append(many.Items, named(syntax.Struct, "", name("")))
	}
	for i, x := range []struct {
		f    syntax.File
		want api.Errno
	}{
		{syntax.File{Items: []syntax.Node{{}}}, api.ErrForm},
		{syntax.File{Items: []syntax.Node{node(syntax.Whole)}}, api.ErrForm},
		{syntax.File{Items: []syntax.Node{named(syntax.Const, "a", node(-1))}}, api.ErrRange},
		{syntax.File{Items: []syntax.Node{named(syntax.Const, "a", node(syntax.Ident))}}, api.ErrType},
		{syntax.File{Items: []syntax.Node{named(syntax.Const, "a")}}, api.ErrForm},
		{syntax.File{Items: []syntax.Node{named(syntax.Const, "a b", name("a"))}}, api.ErrName},
		{long, api.ErrLarge},
		{wrong, api.ErrForm},
		{many, api.ErrLarge},
	} {
		if s, e := print.File(x.f); e != x.want || s != "" {
			t.Errorf("%d: %.50s %v instead of %v", i, s, e, x.want)
		}
	}
}

func TestLimitsOfFile(t *testing.T) {
	f := fileOf(api.MaxText)
	s, e := print.File(f)
	if e != api.OK || len(s) != api.MaxText || !syntax.SameFile(read(t, s), f) {
		t.Error(len(s), e)
	}
	f.Items[7].Kids[0].Num.V = 10
	if s, e = print.File(f); e != api.ErrLarge || s != "" {
		t.Error(len(s), e)
	}
}

func TestDepthOfFile(t *testing.T) {
	deep, want := node(syntax.Nop), ";"
	for range syntax.MaxDepth - 5 {
		deep = node(syntax.Block, deep)
		want = "{\n" + inside(1, want) + "}"
	}
	file := func(n syntax.Node) syntax.File {
		body := node(syntax.Body, node(syntax.Comb, n))
		return syntax.File{Items: []syntax.Node{named(syntax.Module, "m", node(syntax.Params), node(syntax.Ports), body)}}
	}
	s, e := print.File(file(deep))
	if e != api.OK || s != "module m () {\n"+inside(1, "comb "+want)+"}\n" {
		t.Error(s, e)
	}
	if !syntax.SameFile(read(t, s), file(deep)) {
		t.Error("read as another tree")
	}
	if s, e = print.File(file(node(syntax.Block, deep))); e != api.ErrLarge || s != "" {
		t.Error(s, e)
	}
}

// The lines and the places in a file do not matter.
func TestPlaces(t *testing.T) {
	f := read(t, "\n\n  const a = // one\n1;")
	f.Items[0].Line, f.Items[0].Kids[0].Col = 1000, 0
	for range 2 {
		if s, e := print.File(f); e != api.OK || s != "const a = 1;\n" {
			t.Error(s, e)
		}
		f.Lines = nil
	}
}
