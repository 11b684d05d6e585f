/- The document's answer of layer 5: Num. -/
import Derived.Test.YtbahpbinilnfoaaDoorShowNodes
import Derived.Laws.IdiomStrings
namespace Go.Proofs.YtbahpbinilnfoaaDoor
open Go.RowKit
attribute [local go_sem] later_size later_cell later_frozen later_setCell later_drew later_drewN later_tape drewN_setCell drewN_alloc drewN_later later_later lt_more lt_more1 lt_more2 lt_more3 lt_more4 lk0_0_1 lk1_0_1 lk2_0_1 lk0_0_2 lk1_0_2 lk2_0_2 lk0_1_2 lk0_0_3 lk1_0_3 lk2_0_3 lk0_1_3 lk0_2_3 lk0_0_4 lk1_0_4 lk2_0_4 lk0_1_4 lk0_2_4 lk0_3_4 lk0_0_5 lk1_0_5 lk2_0_5 lk0_1_5 lk0_2_5 lk0_3_5 lk0_4_5 lk0_0_6 lk1_0_6 lk2_0_6 lk0_1_6 lk0_2_6 lk0_3_6 lk0_4_6 lk0_5_6 lk0_0_7 lk1_0_7 lk2_0_7 lk0_1_7 lk0_2_7 lk0_3_7 lk0_4_7 lk0_5_7 lk0_6_7
theorem conv_byte (W : World) (c : UInt8) (v : Int) (hv : v = (c.toNat : Int)) : (convert 59 9 (.slice (some ⟨W.heap.size, 0, none⟩) 1 1)).run Tryd.prog (W.alloc (.cells #[.int .u8 v] 5)) = .ok (.string ⟨#[c]⟩) (W.alloc (.cells #[.int .u8 v] 5)) := by
  have h := run_convert_bytes_back (P := Tryd.prog) (W.alloc (.cells #[.int .u8 v] 5)) 59 9 5 ⟨W.heap.size, 0, none⟩ 1 [c] Tryd.underlying59 Tryd.underlying5 Tryd.underlying9 (fun j hj => by
    obtain rfl : j = 0 := by simpa using hj
    have e0 : ((⟨W.heap.size, 0, none⟩ : Addr).add 0) = ⟨W.heap.size, 0, none⟩ := rfl
    rw [e0, World.cell?_alloc_at _ _ _ _ rfl, hv]
    rfl)
  exact h
theorem dec_len : ∀ (k u : Nat), u < 10 ^ (k + 1) → (Lib.decDigits u).length ≤ k + 1
  | 0, u, h => by rw [Lib.decDigits, dif_pos (by omega)]; simp
  | k + 1, u, h => by
    rw [Lib.decDigits]
    split
    · simp
    · have := dec_len k (u / 10) (by rw [Nat.pow_succ] at h; omega)
      simp only [List.length_append, List.length_cons, List.length_nil]
      omega
set_option maxRecDepth 100000 in
set_option maxHeartbeats 3200000 in
theorem num_ref (n : Int) (h0 : 0 ≤ n) (h1 : n ≤ 9223372036854775807) (w : World) : Calls Tryd.prog 48 #[.int .i64 n] w fun e w' => e = .returned (.string ⟨(Lib.itoa n).toArray⟩) ∧ Below w.heap.size w w' := by
  rw [itoa_dec h0]
  obtain ⟨u, rfl⟩ : ∃ u : Nat, n = u := ⟨n.toNat, by omega⟩
  simp only [Int.toNat_natCast]
  have HU : Hid ((Lib.decDigits u).length ≤ 100) := by have := dec_len 99 u (by omega); rw [Hid]; omega
  go_enter Tryd.func48, Tryd.ntmps48
  go_wp2_with fail
  go_loopw [0, 3] (fun x s wr => ∃ (m : Nat) (d : List UInt8), m ≤ u ∧ x = .int .i64 m ∧ s = .string ⟨d.toArray⟩ ∧ Hid (Lib.decDigits u = Lib.decDigits m ++ d) ∧ Hid (Below w.heap.size w wr)) (fun x _ _ => (intOf x).toNat)
  case atStart => exact ⟨u, [], Nat.le_refl _, rfl, rfl, by simp [Hid], Below.refl _ _⟩
  case round =>
    obtain ⟨m, d, hm, rfl, rfl, HD, HB⟩ := hrel
    have hdl : d.length ≤ 100 := by
      have h2 := HU.out
      rw [HD.out, List.length_append] at h2
      omega
    by_cases h9 : 9 < m
    · obtain ⟨c, hc⟩ : ∃ c, c = UInt8.ofNat (48 + m % 10) := ⟨_, rfl⟩
      have hcv : (48 + (m : Int) % 10) = (c.toNat : Int) := by rw [hc]; simp; omega
      have hconv := conv_byte wr c (48 + (m : Int) % 10) hcv
      obtain ⟨d', hd'⟩ : ∃ d', d' = c :: d := ⟨_, rfl⟩
      have a1 : ∀ W, (Op.stringOp .add ⟨#[c]⟩ ⟨d.toArray⟩).run Tryd.prog W = .ok (.string ⟨d'.toArray⟩) W := fun W => by
        rw [hd']
        exact add_text W [c] d (by simp only [List.length_cons, List.length_nil]; omega)
      have HD2 : Hid (Lib.decDigits u = Lib.decDigits (m / 10) ++ d') := by
        rw [Hid, HD.out, hd', hc]
        conv => lhs; rw [Lib.decDigits, dif_neg (by omega)]
        simp
      have HB2 : Hid (Below w.heap.size w (wr.alloc (.cells #[.int .u8 (48 + (m : Int) % 10)] 5))) := HB.out.alloc HB.out.size _
      clear hc hcv hd'
      go_wp2_with fail
      go_roundw
      case rel => exact ⟨m / 10, d', by omega, by first | rfl | go_num, rfl, HD2, HB2⟩
      case measure => simp [intOf]; omega
    · obtain ⟨c, hc⟩ : ∃ c, c = UInt8.ofNat (48 + m) := ⟨_, rfl⟩
      have hcv : (48 + (m : Int)) = (c.toNat : Int) := by rw [hc]; simp; omega
      have hconv := conv_byte wr c (48 + (m : Int)) hcv
      obtain ⟨d', hd'⟩ : ∃ d', d' = c :: d := ⟨_, rfl⟩
      have a1 : ∀ W, (Op.stringOp .add ⟨#[c]⟩ ⟨d.toArray⟩).run Tryd.prog W = .ok (.string ⟨d'.toArray⟩) W := fun W => by
        rw [hd']
        exact add_text W [c] d (by simp only [List.length_cons, List.length_nil]; omega)
      have HD2 : Hid (Lib.decDigits u = d') := by
        rw [Hid, HD.out, hd', hc, Lib.decDigits, dif_pos (by omega)]
        simp
      have HB2 : Hid (Below w.heap.size w (wr.alloc (.cells #[.int .u8 (48 + (m : Int))] 5))) := HB.out.alloc HB.out.size _
      clear hc hcv hd'
      go_wp2_with fail
      go_ret
      exact ⟨by rw [HD2.out]; rfl, HB2.out⟩
end Go.Proofs.YtbahpbinilnfoaaDoor
