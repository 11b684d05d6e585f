import Derived.Test.YthbgnpkgglbhjaaGreatDoorLexSome
namespace Go.Proofs.YthbgnpkgglbhjaaGreatDoor
open Go.RowKit
def begunBy(a b l d n:Int):Int × Int :=
 if (a==32||a==9||a==10||a==13)=true then (255,1)
 else if (a==45)=true then (if (b==45)=true then (255,l) else (4,1))
 else if (a==40||a==41||a==59||a==44||a==61||a==43||a==37)=true then (4,1)
 else if (a==60)=true then (if (b==62)=true then (4,2) else (4,twoIf (b==61)))
 else if (a==62)=true then (4,twoIf (b==61))
 else if (a==42||a==47)=true then (4,twoIf (b==94))
 else if (a==58)=true then (4,twoIf (b==58))
 else if (a==126&&b==62)=true then (4,2)
 else if digitB a=true then (2,d)
 else if letterB a=true then (1,n)
 else (254,0)
def begunOf(t:ByteArray):Int × Int:=begunBy (byteAt t 0) (byteAt t 1) (lineEnd t 0) (digitEnd t 0) (wordEnd t 0)
set_option maxHeartbeats 3200000 in
set_option maxRecDepth 100000 in
theorem begun_calls(t:ByteArray)(w:World)(hs:t.size≤1048576):Calls Tryz.prog 85 #[.string t] w fun e w'=>e=.returned (.tuple #[.int .u8 (begunOf t).1,.int .i64 (begunOf t).2])∧w'=w:=by
 go_enter Tryz.func85,Tryz.ntmps85
 go_wp2_with fail
 refine(pByte_calls t 0 _).mono ?_
 rintro e w' ⟨rfl,rfl⟩
 go_wp2_with fail
 refine(pByte_calls t 1 _).mono ?_
 rintro e w' ⟨rfl,rfl⟩
 obtain⟨a,ha⟩:∃a,byteAt t 0=a:=⟨_,rfl⟩
 obtain⟨b,hb⟩:∃b,byteAt t 1=b:=⟨_,rfl⟩
 rw[ha,hb]
 have HA:Hid _:=ha
 have HB:Hid _:=hb
 clear ha hb
 go_wp2_with (first
  | (go_at_call 114;refine(pTwo_calls _ _).mono ?_;rintro e w' ⟨rfl,rfl⟩)
  | (go_at_call 115;refine(pDigit_calls _ _).mono ?_;rintro e w' ⟨rfl,rfl⟩)
  | (go_at_call 116;refine(pLetter_calls _ _).mono ?_;rintro e w' ⟨rfl,rfl⟩)
  | (go_at_call 112;with_reducible refine(run1_calls t _ hs).mono ?_;rintro e w' ⟨rfl,rfl⟩)
  | (go_at_call 112;with_reducible refine(run2_calls t _ hs).mono ?_;rintro e w' ⟨rfl,rfl⟩)
  | (go_at_call 112;with_reducible refine(run3_calls t _ hs).mono ?_;rintro e w' ⟨rfl,rfl⟩))
 all_goals
  go_ret2
  refine⟨?_,rfl⟩
  simp only[begunOf,HA.out,HB.out]
  clear HA HB
  simp only[begunBy, *,Bool.or_true,Bool.true_or,Bool.or_false,Bool.and_true,Bool.and_false,Bool.false_and,if_true,if_false,Bool.false_eq_true]
  try rfl
end Go.Proofs.YthbgnpkgglbhjaaGreatDoor
