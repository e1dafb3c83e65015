/-
  Sha Tre
-/
namespace Go.Proofs.YtlbacbcenejngaaGreatDoor
namespace Sha
def xor (a b:Int):Int:=((a.toNat ^^^ b.toNat:Nat):Int)
def and (a b:Int):Int:=((a.toNat &&& b.toNat:Nat):Int)
def rot (n:Nat) (x:Int):Int:=x / 2^n+x % 2^n*2^(32-n)
def s0 (x:Int):Int:=xor (xor (rot 7 x) (rot 18 x)) (x / 8)
def s1 (x:Int):Int:=xor (xor (rot 17 x) (rot 19 x)) (x / 1024)
def b1 (e:Int):Int:=xor (xor (rot 6 e) (rot 11 e)) (rot 25 e)
def b0 (a:Int):Int:=xor (xor (rot 2 a) (rot 13 a)) (rot 22 a)
def ch (e f g:Int):Int:=xor (and e f) (and (4294967295-e) g)
def maj (a b c:Int):Int:=xor (xor (and a b) (and a c)) (and b c)
structure St where
 a:Int
 b:Int
 c:Int
 d:Int
 e:Int
 f:Int
 g:Int
 h:Int
def step (s:St) (k w:Int):St :=
 ⟨(s.h+b1 s.e+ch s.e s.f s.g+k+w+(b0 s.a+maj s.a s.b s.c)) % 4294967296,s.a,s.b,s.c,
  (s.d+(s.h+b1 s.e+ch s.e s.f s.g+k+w)) % 4294967296,s.e,s.f,s.g⟩
def K:List Int:=[1116352408,1899447441,3049323471,3921009573,961987163,1508970993,2453635748,2870763221,3624381080,310598401,607225278,1426881987,1925078388,2162078206,2614888103,3248222580,3835390401,4022224774,264347078,604807628,770255983,1249150122,1555081692,1996064986,2554220882,2821834349,2952996808,3210313671,3336571891,3584528711,113926993,338241895,666307205,773529912,1294757372,1396182291,1695183700,1986661051,2177026350,2456956037,2730485921,2820302411,3259730800,3345764771,3516065817,3600352804,4094571909,275423344,430227734,506948616,659060556,883997877,958139571,1322822218,1537002063,1747873779,1955562222,2024104815,2227730452,2361852424,2428436474,2756734187,3204031479,3329325298]
def start:St:=⟨1779033703,3144134277,1013904242,2773480762,1359893119,2600822924,528734635,1541459225⟩
def at8 (l:List UInt8) (i:Nat):Int:=((l.getD i 0).toNat:Int)
def word (l:List UInt8) (t:Nat):Int:=((at8 l (4*t)*256+at8 l (4*t+1))*256+at8 l (4*t+2))*256+at8 l (4*t+3)
def words (l:List UInt8) (t:Nat):List Int:=(List.range t).map (word l)
def next (l:List Int):Int:=(s1 (l.getD (l.length-2) 0)+l.getD (l.length-7) 0+s0 (l.getD (l.length-15) 0)+l.getD (l.length-16) 0) % 4294967296
def sched (l:List UInt8):Nat→List Int
 | 0=>words l 16
 | n+1=>sched l n++[next (sched l n)]
def run (W:List Int) (s:St):Nat→St
 | 0=>s
 | n+1=>step (run W s n) (K.getD n 0) (W.getD n 0)
def sum (s t:St):St:=⟨(s.a+t.a) % 4294967296,(s.b+t.b) % 4294967296,(s.c+t.c) % 4294967296,(s.d+t.d) % 4294967296,
 (s.e+t.e) % 4294967296,(s.f+t.f) % 4294967296,(s.g+t.g) % 4294967296,(s.h+t.h) % 4294967296⟩
def compress (s:St) (l:List UInt8):St:=sum s (run (sched l 48) s 64)
def block (l:List UInt8) (n:Nat):List UInt8:=(l.drop (64*n)).take 64
def fold (l:List UInt8) (s:St):Nat→St
 | 0=>s
 | n+1=>compress (fold l s n) (block l n)
def St.toList (s:St):List Int:=[s.a,s.b,s.c,s.d,s.e,s.f,s.g,s.h]
def be8 (n:Nat):List UInt8:=(List.range 8).map fun i=>UInt8.ofNat (n / 256^(7-i))
def room (n:Nat):Nat:=if 64-n % 64<9 then 128-n % 64 else 64-n % 64
def pad (n:Nat):List UInt8:=128::(List.replicate (room n-9) 0++be8 (8*n))
def padded (l:List UInt8):List UInt8:=l++pad l.length
def outByte (s:St) (i:Nat):UInt8:=UInt8.ofNat ((s.toList.getD (i / 4) 0).toNat / 256^(3-i % 4))
def out (s:St):List UInt8:=(List.range 32).map (outByte s)
def digest (l:List UInt8):List UInt8:=out (fold (padded l) start ((padded l).length / 64))
def key64 (k:List UInt8):List UInt8:=if k.length>64 then digest k else k
def mask (k:List UInt8) (m:UInt8):List UInt8:=(List.range 64).map fun i=>(k.getD i 0) ^^^ m
def tag (k l:List UInt8):List UInt8:=digest (mask (key64 k) 92++digest (mask (key64 k) 54++l))
def R (x:Int):Prop:=0≤x∧x<4294967296
theorem xor_R {a b:Int} (ha:R a) (hb:R b):R (xor a b):=by
 obtain ⟨a0,a1⟩:=ha;obtain ⟨b0,b1⟩:=hb
 have:a.toNat ^^^ b.toNat<2^32:=Nat.xor_lt_two_pow (by omega) (by omega)
 unfold R xor;omega
theorem and_R {a b:Int} (ha:R a):R (and a b):=by
 obtain ⟨a0,a1⟩:=ha
 have:a.toNat &&& b.toNat≤a.toNat:=Nat.and_le_left
 unfold R and;omega
theorem div_R {a:Int} (n:Nat) (ha:R a):R (a / ((n:Int)+1)):=by
 obtain ⟨a0,a1⟩:=ha
 refine ⟨Int.ediv_nonneg a0 (by omega),Int.lt_of_le_of_lt (Int.ediv_le_self _ a0) a1⟩
theorem rot_R {n:Nat} (hn:n≤32) {x:Int} (hx:R x):R (rot n x):=by
 obtain ⟨x0,x1⟩:=hx
 have e:(2:Int)^n*2^(32-n)=4294967296:=by
  rw [← Int.pow_add,show n+(32-n)=32 by omega];rfl
 have p1:(0:Int)<2^n:=Int.pow_pos (by decide)
 have p2:(0:Int)<2^(32-n):=Int.pow_pos (by decide)
 unfold R rot
 generalize (2:Int)^n=p at *
 generalize (2:Int)^(32-n)=q at *
 have h1:0≤x / p:=Int.ediv_nonneg x0 (by omega)
 have h2:0≤x % p:=Int.emod_nonneg _ (by omega)
 have h3:x % p<p:=Int.emod_lt_of_pos _ p1
 have h4:x / p<q:=Int.ediv_lt_of_lt_mul p1 (by rw [Int.mul_comm q p,e];exact x1)
 have h5:0≤x % p*q:=Int.mul_nonneg h2 (by omega)
 have h6:x % p*q≤(p-1)*q:=Int.mul_le_mul_of_nonneg_right (by omega) (by omega)
 have h7:(p-1)*q=p*q-q:=by rw [Int.sub_mul,Int.one_mul]
 omega
theorem s0_R {x:Int} (h:R x):R (s0 x):=xor_R (xor_R (rot_R (by decide) h) (rot_R (by decide) h)) (div_R 7 h)
theorem s1_R {x:Int} (h:R x):R (s1 x):=xor_R (xor_R (rot_R (by decide) h) (rot_R (by decide) h)) (div_R 1023 h)
theorem b0_R {x:Int} (h:R x):R (b0 x):=xor_R (xor_R (rot_R (by decide) h) (rot_R (by decide) h)) (rot_R (by decide) h)
theorem b1_R {x:Int} (h:R x):R (b1 x):=xor_R (xor_R (rot_R (by decide) h) (rot_R (by decide) h)) (rot_R (by decide) h)
theorem not_R {x:Int} (h:R x):R (4294967295-x):=by unfold R at *;omega
theorem ch_R {e f g:Int} (he:R e):R (ch e f g):=xor_R (and_R he) (and_R (not_R he))
theorem maj_R {a b c:Int} (ha:R a) (hb:R b):R (maj a b c):=xor_R (xor_R (and_R ha) (and_R ha)) (and_R hb)
theorem mod_R (x:Int):R (x % 4294967296):=⟨Int.emod_nonneg _ (by decide),Int.emod_lt_of_pos _ (by decide)⟩
structure St.Ok (s:St):Prop where
 a:R s.a
 b:R s.b
 c:R s.c
 d:R s.d
 e:R s.e
 f:R s.f
 g:R s.g
 h:R s.h
theorem step_ok {s:St} (k w:Int) (h:s.Ok):(step s k w).Ok:=⟨mod_R _,h.a,h.b,h.c,mod_R _,h.e,h.f,h.g⟩
theorem run_ok (W:List Int) {s:St} (h:s.Ok) (n:Nat):(run W s n).Ok:=by
 induction n with
 | zero=>exact h
 | succ n ih=>exact step_ok _ _ ih
theorem sum_ok (s t:St):(sum s t).Ok:=⟨mod_R _,mod_R _,mod_R _,mod_R _,mod_R _,mod_R _,mod_R _,mod_R _⟩
theorem start_ok:start.Ok:=by constructor <;> (unfold R;decide)
theorem fold_ok (l:List UInt8) {s:St} (h:s.Ok) (n:Nat):(fold l s n).Ok:=by
 cases n with
 | zero=>exact h
 | succ n=>exact sum_ok _ _
theorem at8_bd (l:List UInt8) (i:Nat):0≤at8 l i∧at8 l i≤255:=by
 unfold at8;have:=(l.getD i 0).toNat_lt;omega
theorem word_R (l:List UInt8) (t:Nat):R (word l t):=by
 have h0:=at8_bd l (4*t);have h1:=at8_bd l (4*t+1);have h2:=at8_bd l (4*t+2);have h3:=at8_bd l (4*t+3)
 unfold R word;omega
theorem words_length (l:List UInt8) (t:Nat):(words l t).length=t:=by simp [words]
theorem words_succ (l:List UInt8) (t:Nat):words l (t+1)=words l t++[word l t]:=by simp [words,List.range_succ]
theorem sched_length (l:List UInt8) (n:Nat):(sched l n).length=16+n:=by
 induction n with
 | zero=>simp [sched,words_length]
 | succ n ih=>simp [sched,ih];omega
theorem words_all (l:List UInt8) (t:Nat):∀ x∈words l t,R x:=by
 intro x hx
 simp only [words,List.mem_map] at hx
 obtain ⟨i,_,rfl⟩:=hx
 exact word_R _ _
theorem sched_all (l:List UInt8) (n:Nat):∀ x∈sched l n,R x:=by
 induction n with
 | zero=>exact words_all l 16
 | succ n ih =>
  intro x hx
  simp only [sched,List.mem_append,List.mem_singleton] at hx
  rcases hx with hx | rfl
  ·exact ih x hx
  ·exact mod_R _
theorem getD_R {l:List Int} (h:∀ x∈l,R x) (i:Nat):R (l.getD i 0):=by
 rw [List.getD_eq_getElem?_getD]
 cases hq:l[i]? with
 | none=>exact ⟨by decide,by decide⟩
 | some x=>exact h x (List.mem_of_getElem? hq)
theorem K_all:∀ x∈K,R x:=by
 have:K.all (fun x=>decide (0≤x)&&decide (x<4294967296))=true:=by decide
 intro x hx
 have:=List.all_eq_true.1 this x hx
 simpa [R] using this
theorem pad_length (n:Nat):(pad n).length=room n:=by
 have:9≤room n:=by unfold room;split <;> omega
 simp [pad,be8];omega
theorem room_dvd (n:Nat):(n+room n) % 64=0:=by unfold room;split <;> omega
theorem room_bd (n:Nat):9≤room n∧room n≤72:=by unfold room;split <;> omega
theorem out_length (s:St):(out s).length=32:=by simp [out]
theorem digest_length (l:List UInt8):(digest l).length=32:=out_length _
theorem mask_length (k:List UInt8) (m:UInt8):(mask k m).length=64:=by simp [mask]
theorem fold_append (A B:List UInt8) (s:St) (m r:Nat) (hA:A.length=64*m):fold (A++B) s (m+r)=fold B (fold A s m) r:=by
 have base:∀ j,j≤m→fold (A++B) s j=fold A s j:=by
  intro j
  induction j with
  | zero=>intro _;rfl
  | succ j ih =>
   intro hj
   have e:block (A++B) j=block A j:=by
    unfold block
    rw [List.drop_append_of_le_length (by omega),List.take_append_of_le_length (by rw [List.length_drop];omega)]
   simp only [fold]
   rw [ih (by omega),e]
 induction r with
 | zero=>exact base m (Nat.le_refl _)
 | succ r ih =>
  have e:block (A++B) (m+r)=block B r:=by
   unfold block
   rw [show 64*(m+r)=A.length+64*r by omega,List.drop_append,List.drop_eq_nil_of_le (by omega:A.length≤A.length+64*r)]
   simp
  show compress (fold (A++B) s (m+r)) (block (A++B) (m+r))=compress (fold B (fold A s m) r) (block B r)
  rw [ih,e]
end Sha
end Go.Proofs.YtlbacbcenejngaaGreatDoor
namespace Go.Proofs.YtlbacbcenejngaaGreatDoor
namespace Tre
def leaf (s:List UInt8):List UInt8:=Sha.digest (0::s)
def node (a b:List UInt8):List UInt8:=Sha.digest (1::(a++b))
def split (n:Nat):Nat:=2^Nat.log2 (n-1)
theorem split_pos (n:Nat):0<split n:=Nat.two_pow_pos _
theorem split_lt {n:Nat} (h:2≤n):split n<n:=by
 have:=Nat.log2_self_le (n:=n-1) (by omega)
 unfold split;omega
def few:List (List UInt8)→List UInt8
 | []=>Sha.digest []
 | x::_=>leaf x
def root (l:List (List UInt8)):List UInt8 :=
 if l.length≤1 then few l
 else node (root (l.take (split l.length))) (root (l.drop (split l.length)))
termination_by l.length
decreasing_by
 ·have:=split_lt (n:=l.length) (by omega)
  simp;omega
 ·have:=split_pos l.length
  simp;omega
end Tre
end Go.Proofs.YtlbacbcenejngaaGreatDoor
