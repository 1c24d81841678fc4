package check_test

import (
	"testing"

	"solder/api"
	"solder/helps"
)

// Texts that are as large as they may be: all in them is looked at, up to the end.
func TestLargestTexts(t *testing.T) {
	for _, c := range []struct {
		head, piece, right, wrong string
		e                         api.Errno
	}{
		{"void f(){", ";", "}", "@b;}", api.ErrName},
		{"void f(){", "1;", "}", "@break;}", api.ErrType},
		{"void f(){", "{}", "}", "{@b;}}", api.ErrName},
		{"int b;void f(){", "b;", "}", "@c;}", api.ErrName},
		{"int a=1", "+1", ";", ";int c=@b;", api.ErrName},
		{"int a=1", "+-1", ";", ";int c=@1.5;", api.ErrType},
		{"int a=1", "<1", ";", ";int c=1+@b;", api.ErrName},
		{"int a[1]={1};int b=a[0]", "+a[0]", ";", "+@a[1.5];", api.ErrType},
		{"", "int f();", "", "int g(@void a);", api.ErrType},
		{"", "int f(int a,int b,int c,int d,int e,int g,int h,int i);", "", "@double f();", api.ErrType},
		{"void f(){", "{int x;}", "}", "{int x;@int x;}}", api.ErrName},
		{"void f(){", "while(0);", "}", "@continue;}", api.ErrType},
		{"void f(){", "if(1);else;", "}", "if(@1.5);}", api.ErrType},
	} {
		right(t, helps.Filled(c.head, c.piece, c.right))
		wrong(t, helps.Filled(c.head, c.piece, c.wrong), c.e)
	}
	// Of a sum whose last operand doesn't fit, the whole one is wrong.
	wrong(t, helps.Filled("int a=@1", "+1", "+1.5;"), api.ErrType)
}
