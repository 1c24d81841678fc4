package bind_test

import (
	"slices"
	"strconv"
	"strings"
	"testing"

	"solder/api"
	"solder/bind"
	"solder/helps"
)

// largest are eight modules that are as large as they may be. The first defines f, or asks for it as all others do.
func largest(piece, first string) (texts []string) {
	for n := range api.MaxModules - 1 {
		head := "int f();"
		if n == 0 {
			head = first
		}
		texts = append(texts, helps.Filled("static int x;"+head+"void f"+strconv.Itoa(n)+"(){", piece, "x;}"))
	}
	return append(texts, helps.Filled("static int x;int f();int main(){", piece, "x;f();}"))
}

// All in the largest modules is looked at, up to the end; and so is all of their program.
func TestLargestModules(t *testing.T) {
	for _, piece := range []string{";", "1;", "-1;", "{}", "x;", "{int x;}", "while(0);", "if(1);else;", "x=x+1;", "*&x;"} {
		texts := largest(piece, "int f(){}")
		mods := checked(t, texts...)
		allHolds(t, texts, mods)
		m, at, e := bind.Bind(mods)
		if len(m.Decls) != 17 || at != 0 || e != api.OK {
			t.Errorf("P14.1: of eight modules of many %s: error %d at %d, %d Decls", piece, e, at, len(m.Decls))
			continue
		}
		body := m.Decls[16].Body.Kids
		if x := body[len(body)-2].Exprs[0]; x.Name != "7.x" {
			t.Errorf("P14.1: behind many %s the name is %s", piece, x.Name)
		}
		// The last name of all is the one that nobody defines.
		texts = largest(piece, "int f();")
		texts[7] = "@" + texts[7]
		fails(t, api.ErrNone, texts...)
	}
}

// Many names, many Decls of one name, and the longest names.
func TestManyNames(t *testing.T) {
	asked, defined, body := "", "", ""
	var names []string
	for n := range 400 {
		name := "n" + strconv.Itoa(n)
		asked += "extern int " + name + ";"
		defined += "int " + name + ";"
		body += name + ";"
		names = append(names, name)
	}
	slices.Sort(names)
	user := asked + "int main(){" + body + "}"
	faces(t, user, "main", strings.Join(names, " "))
	faces(t, defined, strings.Join(names, " "), "")
	inOrders(t, api.OK, user, defined)
	inOrders(t, api.ErrNone, "@"+user, strings.Replace(defined, "int n399;", "", 1))
	inOrders(t, api.ErrNone, "@"+user, strings.Replace(defined, "int n0;", "static int n0;", 1))
	inOrders(t, api.ErrMatch, "@"+user, strings.Replace(defined, "int n399;", "double n399;", 1))
	inOrders(t, api.ErrTwice, user, "@"+defined, "@int n399;")
	inOrders(t, api.OK, begins, strings.Repeat("extern int b;", 600), strings.Repeat("int f();", 400)+"int b;")
	long := strings.Repeat("a", api.MaxName)
	texts := []string{"static int " + long + ";", "int " + long + "() { return 1; }", "int " + long + "(); int main() { return " + long + "(); }"}
	mods, m := bound(t, texts...)
	allHolds(t, texts, mods)
	if len(m.Decls) != 3 || m.Decls[0].Name != "0."+long || m.Decls[1].Name != long {
		t.Errorf("P14.1: with long names: %s", told(m))
	}
	inOrders(t, api.ErrNone, begins, "int "+long+";", "@extern int "+long[1:]+"; int *p = &"+long[1:]+";")
}
