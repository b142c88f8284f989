import Derived.Test.YtjikkhbcbfpocaaGreatDoorWRead
namespace Go.Proofs.YtjikkhbcbfpocaaGreatDoor.Su
namespace Crc
def poly:Nat:=3988292384
def ones:Nat:=4294967295
def tab:List Nat:=[0,498536548,997073096,651767980,1994146192,1802195444,1303535960,1342533948,3988292384,4027552580,3604390888,3412177804,2607071920,2262029012,2685067896,3183342108]
def bit (x:Nat):Nat:=if x%2=1 then x/2 ^^^ poly else x/2
def nib (x:Nat):Nat:=x/16 ^^^ tab.getD (x%16) 0
def byteStep (x c:Nat):Nat:=nib (nib (x ^^^ c))
def raw (x:Nat) (l:List Nat):Nat:=l.foldl byteStep x
def crc (l:List Nat):Nat:=raw ones l ^^^ ones
def bits:Nat→Nat→Nat
 | 0,x=>x
 | n+1,x=>bits n (bit x)
theorem vu (x y k:Nat):(x ^^^ y)/2 ^ k=x/2 ^ k ^^^ y/2 ^ k:=by
 apply Nat.eq_of_testBit_eq;intro i;simp [Nat.testBit_div_two_pow]
theorem vy (x y k:Nat):(x ^^^ y)%2 ^ k=x%2 ^ k ^^^ y%2 ^ k:=by
 apply Nat.eq_of_testBit_eq;intro i;simp [Nat.testBit_mod_two_pow]
 cases decide (i<k)<;>simp
theorem rV (x k:Nat):x=(x/2 ^ k)*2 ^ k ^^^ x%2 ^ k:=by
 apply Nat.eq_of_testBit_eq;intro i
 simp only [Nat.testBit_xor,Nat.testBit_mul_two_pow,Nat.testBit_div_two_pow,Nat.testBit_mod_two_pow]
 by_cases h:k≤i
 ·simp [h,show ¬ i<k by omega]
 ·simp [h,show i<k by omega]
theorem vz (x y:Nat):bit (x ^^^ y)=bit x ^^^ bit y:=by
 have h1:(x ^^^ y)/2=x/2 ^^^ y/2:=vu x y 1
 have h2:(x ^^^ y)%2=(x%2 ^^^ y%2):=vy x y 1
 unfold bit
 rw [h1,h2]
 rcases Nat.mod_two_eq_zero_or_one x with hx | hx<;>rcases Nat.mod_two_eq_zero_or_one y with hy | hy<;>simp [hx,hy]
 ·ac_rfl
 ·ac_rfl
 ·rw [show x/2 ^^^ poly ^^^ (y/2 ^^^ poly)=(x/2 ^^^ y/2) ^^^ (poly ^^^ poly) by ac_rfl];simp
theorem te (n:Nat):∀ x y,bits n (x ^^^ y)=bits n x ^^^ bits n y:=by
 induction n with
 | zero=>intro x y;rfl
 | succ n ih=>intro x y;simp [bits,vz,ih]
theorem tf (m n:Nat):∀ x,bits (m+n) x=bits n (bits m x):=by
 induction m with
 | zero=>intro x;simp [bits]
 | succ m ih=>intro x;rw [show m+1+n=(m+n)+1 by omega];simp [bits,ih]
theorem tg (x:Nat):bit (x*2)=x:=by
 unfold bit;rw [if_neg (by omega)];omega
theorem wB (n:Nat):∀ x,bits n (x*2 ^ n)=x:=by
 induction n with
 | zero=>intro x;simp [bits]
 | succ n ih=>intro x;rw [Nat.pow_succ,← Nat.mul_assoc];simp [bits,tg,ih]
theorem mW (x:Nat):nib x=bits 4 x:=by
 have h:=rV x 4
 have h2:bits 4 x=bits 4 (x/2 ^ 4*2 ^ 4) ^^^ bits 4 (x%2 ^ 4):=by
  rw [← te,← h]
 rw [h2,wB]
 unfold nib
 have h3:∀ r,r<16→tab.getD r 0=bits 4 r:=by decide +kernel
 rw [h3 (x%16) (by omega)]
theorem fF (x c:Nat):byteStep x c=bits 8 (x ^^^ c):=by
 unfold byteStep;rw [mW,mW,← tf]
def num:List Nat→Nat
 | []=>0
 | c::l=>c ^^^ num l*2 ^ 8
theorem a0M {x:Nat} (h:x<4294967296):bit x<4294967296:=by
 unfold bit
 split
 ·exact Nat.xor_lt_two_pow (n:=32) (by omega) (by decide)
 ·omega
theorem nt (x:Nat) (a b:List Nat):raw x (a++b)=raw (raw x a) b:=by simp [raw]
def four (n:Nat):List Nat:=[n%256,n/256%256,n/65536%256,n/16777216%256]
theorem wC (n:Nat):∀ x,x<4294967296→bits n x<4294967296:=by
 induction n with
 | zero=>intro x h;exact h
 | succ n ih=>intro x h;exact ih _ (a0M h)
theorem a0N (l:List Nat):∀ x,x<4294967296→(∀ c∈l,c<256)→raw x l<4294967296:=by
 induction l with
 | nil=>intro x h _;exact h
 | cons c l ih=>
  intro x h hc
  show raw (byteStep x c) l<_
  refine ih _ ?_ (fun d hd=>hc d (by simp [hd]))
  rw [fF]
  exact wC _ _ (Nat.xor_lt_two_pow (n:=32) h (by have:=hc c (by simp);omega))
theorem a0O {l:List Nat} (h:∀ c∈l,c<256):crc l<4294967296:=
 Nat.xor_lt_two_pow (n:=32) (a0N l _ (by decide) h) (by decide)
end Crc
end Go.Proofs.YtjikkhbcbfpocaaGreatDoor.Su
