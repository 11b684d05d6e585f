import Derived.Test.YthbgnpkgglbhjaaGreatDoorExAll
import Derived.Test.YthbgnpkgglbhjaaGreatDoorNames
namespace Go.Proofs.YthbgnpkgglbhjaaGreatDoor
open Go.RowKit
open Ex.size Ex.depth Ex.lies Ex.bulk Ex.good
def argsOf(c:Int):Int:=if c=1∨c=2∨c=3 then 0 else if c=4 then -1 else if c=5∨c=6∨c=23∨c=24∨c=25∨c=26 then 1 else if (7≤c∧c≤19)∨c=21∨c=22 then 2 else if c=20 then 3 else -2
set_option maxHeartbeats 3200000 in
theorem args_calls(c:Int)(w:World):Calls Tryz.prog 109 #[.int .u8 c] w fun x w'=>x=.returned (.int .i64 (argsOf c))∧w'=w:=by
 have HA:Hid (argsOf c=if c=1∨c=2∨c=3 then 0 else if c=4 then -1 else if c=5∨c=6∨c=23∨c=24∨c=25∨c=26 then 1 else if (7≤c∧c≤19)∨c=21∨c=22 then 2 else if c=20 then 3 else -2):=rfl
 by_cases h1:c=1∨c=2∨c=3
 ·rcases h1 with rfl|rfl|rfl
  all_goals
   go_enter Tryz.func109,Tryz.ntmps109
   go_wp2
   go_ret
   exact⟨ret_nat (by rw[HA.out];rfl),rfl⟩
 by_cases h2:c=4
 ·subst h2
  go_enter Tryz.func109,Tryz.ntmps109
  go_wp2
  go_ret
  exact⟨ret_nat (by rw[HA.out];rfl),rfl⟩
 by_cases h3:c=5∨c=6∨c=23∨c=24∨c=25∨c=26
 ·rcases h3 with rfl|rfl|rfl|rfl|rfl|rfl
  all_goals
   go_enter Tryz.func109,Tryz.ntmps109
   go_wp2
   go_ret
   exact⟨ret_nat (by rw[HA.out];rfl),rfl⟩
 by_cases h5:c=20
 ·subst h5
  go_enter Tryz.func109,Tryz.ntmps109
  go_wp2
  go_ret
  exact⟨ret_nat (by rw[HA.out];rfl),rfl⟩
 have HV:Hid (argsOf c=if (7≤c∧c≤19)∨c=21∨c=22 then 2 else -2):=by rw[Hid,HA.out,if_neg h1,if_neg h2,if_neg h3,if_neg h5]
 have b1:(c==1)=false:=beq_false_of_ne (by omega)
 have b2:(c==2)=false:=beq_false_of_ne (by omega)
 have b3:(c==3)=false:=beq_false_of_ne (by omega)
 have b4:(c==4)=false:=beq_false_of_ne (by omega)
 have b5:(c==5)=false:=beq_false_of_ne (by omega)
 have b6:(c==6)=false:=beq_false_of_ne (by omega)
 have b20:(c==20)=false:=beq_false_of_ne (by omega)
 have b23:(c==23)=false:=beq_false_of_ne (by omega)
 have b24:(c==24)=false:=beq_false_of_ne (by omega)
 have b25:(c==25)=false:=beq_false_of_ne (by omega)
 have b26:(c==26)=false:=beq_false_of_ne (by omega)
 clear h1 h2 h3 h5 HA
 by_cases h4:(7≤c∧c≤19)
 ·obtain⟨h6,h7⟩:=h4
  go_enter Tryz.func109,Tryz.ntmps109
  go_wp2
  go_ret
  exact⟨ret_nat (by rw[HV.out,if_pos (Or.inl ⟨h6,h7⟩)]),rfl⟩
 by_cases h8:c=21∨c=22
 ·rcases h8 with rfl|rfl
  all_goals
   go_enter Tryz.func109,Tryz.ntmps109
   go_wp2
   go_ret
   exact⟨ret_nat (by rw[HV.out];rfl),rfl⟩
 have HV2:Hid (argsOf c=-2):=by rw[Hid,HV.out,if_neg (by omega)]
 have b21:(c==21)=false:=beq_false_of_ne (by omega)
 have b22:(c==22)=false:=beq_false_of_ne (by omega)
 have hor:c<7∨19<c:=by omega
 clear h4 h8 HV
 rcases hor with h|h
 all_goals
  go_enter Tryz.func109,Tryz.ntmps109
  go_wp2
  go_ret
  exact⟨ret_nat (by rw[HV2.out]),rfl⟩
end Go.Proofs.YthbgnpkgglbhjaaGreatDoor
