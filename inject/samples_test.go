package inject_test

// little: the definition of doc/29-trellis.md, without what it says of colours, folds and symbols.
const little = `language little; mode str; mode code open;
skip /[ \t]+/; skip /#[^\n]*/;
token NEWLINE /\n/ when queued;
token NEWLINE /\n([ \t]*(#[^\n]*)?\n)*[ \t]*/ when unqueued do measure;
token INDENT empty when deeper do indent;
token DEDENT empty when shallower do dedent;
token DEDENT empty when ended, indented do drop;
token HERE /<<[A-Z]+/ do enqueue 2;
token BODY body when queued do dequeue;
token QUOTE /"/ do enter str;
token CHARS /[^"$\n]+/ in str; token CHARS /$/ in str;
token OPEN /${/ in str do enter code;
token CLOSE /}/ in code do leave;
token END /"/ in str do leave;
token NUMBER /[0-9]+/; token NAME /[a-z_]+/;
rule file = _statement*;
rule _statement = simple | branch | loop | function;
rule simple = _small NEWLINE (text: BODY NEWLINE)*;
rule _small = assign | _expr | "pass" | answer;
rule assign = target: NAME "=" value: _expr;
rule answer = "return" _expr?;
rule branch = "if" test: _expr then: block ("else" other: block)?;
rule loop = "while" test: _expr block;
rule function = "def" name: NAME "(" (NAME ("," NAME)*)? ")" block;
rule block = ":" NEWLINE INDENT _statement+ DEDENT;
rule _expr = sum | _term;
rule sum = left: _expr op: ("+" | "-") right: _term;
rule _term = product | _atom;
rule product = left: _term op: "*" right: _atom;
rule _atom = NAME | NUMBER | string | here | call | "(" _expr ")";
rule call = function: NAME "(" (_expr ("," _expr)*)? ")";
rule here = HERE;
rule string = QUOTE (CHARS | hole)* END;
rule hole = OPEN _expr CLOSE; `
