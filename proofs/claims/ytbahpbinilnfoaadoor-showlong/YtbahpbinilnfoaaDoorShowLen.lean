/- How long the texts of package show are. No program in sight. -/
import Derived.Test.YtbahpbinilnfoaaDoorShowRead
import Derived.Test.YtbahpbinilnfoaaDoorTreeMay
import Derived.Lib.ItoaLen
import Derived.OpenShut
namespace Go.Proofs.YtbahpbinilnfoaaDoor
open Go.RowKit
open Ex.size Ex.depth Ex.lies Ex.bulk Ex.good Ex.shape Ex.text
theorem between_len (sep : List UInt8) (l : List (List UInt8)) (m : Nat) (h : ∀ x ∈ l, x.length ≤ m) : (between sep l).length ≤ l.length * (sep.length + m) := by
  cases l with
  | nil => simp [between]
  | cons x r =>
    have h1 := h x (by simp)
    have h2 := rests_len sep r m fun y hy => h y (by simp [hy])
    simp only [between, List.length_append, List.length_cons, Nat.succ_mul]
    omega
theorem between_sum (sep : List UInt8) (l : List (List UInt8)) : (between sep l).length ≤ l.length * sep.length + (l.map List.length).sum := by
  have hr : ∀ l : List (List UInt8), (rests sep l).length = l.length * sep.length + (l.map List.length).sum := fun l => by
    induction l with
    | nil => simp [rests]
    | cons x r ih => simp only [rests, List.length_append, List.length_cons, List.map_cons, List.sum_cons, ih, Nat.succ_mul]; omega
  cases l with
  | nil => simp [between]
  | cons x r =>
    have := hr r
    simp only [between, List.length_append, List.length_cons, List.map_cons, List.sum_cons, this, Nat.succ_mul]
    omega
theorem par_len (n kd : Int) (s : List UInt8) : (par n (kd, s)).length ≤ s.length + 2 := by
  unfold par
  split
  · simp
  · simp
theorem name_len {nm : ByteArray} (h : nameB nm = true) : nm.data.toList.length ≤ 32 := by
  simp only [nameB, decide_eq_true_eq] at h
  have : nm.data.toList.length = nm.size := by simp
  omega
theorem sign_len (k : Int) : (signOf k).length ≤ 5 := by
  have hi : ∀ (p : Prop) [Decidable p] {a b : List UInt8}, a.length ≤ 5 → b.length ≤ 5 → (if p then a else b).length ≤ 5 := fun p _ a b ha hb => by
    by_cases h : p
    · rw [if_pos h]; exact ha
    · rw [if_neg h]; exact hb
  unfold signOf
  repeat refine hi _ (by decide) ?_
  decide
theorem itoa_len {n : Int} (h : (Lit.int .i64 n).wf = true) : (Lib.itoa n).length ≤ 21 := Lib.itoa_length_le n (bounds_i64 h).1 (bounds_i64 h).2
theorem texts_sum (l : List Ex) (h : ∀ x ∈ l, x.text.length ≤ 100 * x.size) : ((l.map Ex.text).map List.length).sum ≤ 100 * sizes l := by
  induction l with
  | nil => simp [sizes]
  | cons e r ih =>
    have h1 := h e (by simp)
    have h2 := ih fun x hx => h x (by simp [hx])
    simp only [List.map_cons, List.sum_cons, sizes]
    omega
theorem text_len (m : Nat) : ∀ e : Ex, e.size ≤ m → e.shape = true → e.good → e.text.length ≤ 100 * e.size := by
  induction m with
  | zero => intro e h; have := size_pos e; omega
  | succ m ih =>
    rintro ⟨kd, pl, nm, it, dn, a, cap, l⟩ hm h hg
    have hsub : ∀ x ∈ l, x.text.length ≤ 100 * x.size := fun x hx => by
      obtain ⟨i, hi, rfl⟩ := List.getElem_of_mem hx
      have h1 := size_arg hi
      simp only [Ex.size] at hm
      have h2 : (l[i]).shape = true := by
        simp only [Ex.shape, Bool.and_eq_true] at h
        cases hq : (l[i]).shape
        · have := shapes_false l i hi hq
          rw [this] at h
          exact absurd h.2 (by decide)
        · rfl
      exact ih _ (by omega) h2 (goods_get hg.2 hi)
    have hi := itoa_len hg.1.2.2.2.1
    have hd := itoa_len hg.1.2.2.2.2.1
    simp only [Ex.shape, Bool.and_eq_true] at h
    obtain ⟨⟨⟨⟨ha, hnm⟩, hit⟩, hdn⟩, -⟩ := h
    obtain ⟨r1, r2⟩ := args_range ha
    simp only [argsOkB, decide_eq_true_eq] at ha
    have two : ∀ {l : List Ex}, l.length = 2 → ∃ x y, l = [x, y] := fun {l} h => by
      match l, h with
      | [x, y], _ => exact ⟨x, y, rfl⟩
    have lone : ∀ {l : List Ex}, l.length = 1 → ∃ x, l = [x] := fun {l} h => by
      match l, h with
      | [x], _ => exact ⟨x, rfl⟩
    by_cases k1 : kd = 1
    · subst k1
      have := name_len (nm := nm) (by simpa [nameOkB] using hnm)
      rw [text_1]
      simp only [Ex.size]
      omega
    by_cases k2 : kd = 2
    · subst k2
      rw [text_2]
      simp only [Ex.size]
      omega
    by_cases k3 : kd = 3
    · subst k3
      rw [text_3]
      simp only [Ex.size]
      split
      · simp only [List.length_cons, List.length_nil]; omega
      · simp only [List.length_cons, List.length_nil]; omega
    by_cases k4 : kd = 4
    · subst k4
      have h1 := name_len (nm := nm) (by simpa [nameOkB] using hnm)
      have h2 := between_sum [44, 32] (l.map Ex.text)
      have h3 := texts_sum l hsub
      have h4 : l.length ≤ 32 := by simp [argsOf] at ha; omega
      rw [text_4]
      simp only [Ex.size, List.length_append, List.length_cons, List.length_nil, List.length_map] at *
      omega
    have one : ∀ x, l = [x] → x.text.length ≤ 100 * x.size := fun x hx => hsub x (by rw [hx]; simp)
    by_cases k5 : kd = 5
    · subst k5
      obtain ⟨x, rfl⟩ := lone (l := l) (by simp [argsOf] at ha; omega)
      have h1 := one x rfl
      have h2 := par_len 8 x.kd x.text
      rw [text_5]
      have h3 : (if x.kd = 5 then ([32] : List UInt8) else []).length ≤ 1 := by split <;> simp
      simp only [Ex.size, sizes, List.length_append, List.length_cons, List.length_nil]
      omega
    by_cases k6 : kd = 6
    · subst k6
      obtain ⟨x, rfl⟩ := lone (l := l) (by simp [argsOf] at ha; omega)
      have h1 := one x rfl
      have h2 := par_len 4 x.kd x.text
      have e1 : Ex.text (.mk 6 pl nm it dn a cap [x]) = [110, 111, 116, 32] ++ par 4 (x.kd, x.text) := rfl
      rw [e1]
      simp only [Ex.size, sizes, List.length_append, List.length_cons, List.length_nil]
      omega
    by_cases k23 : kd = 23
    · subst k23
      obtain ⟨x, rfl⟩ := lone (l := l) (by simp [argsOf] at ha; omega)
      have h1 := one x rfl
      have h2 := par_len 8 x.kd x.text
      have e1 : Ex.text (.mk 23 pl nm it dn a cap [x]) = [116, 97, 105, 108, 32] ++ par 8 (x.kd, x.text) := rfl
      rw [e1]
      simp only [Ex.size, sizes, List.length_append, List.length_cons, List.length_nil]
      omega
    by_cases k20 : kd = 20
    · subst k20
      obtain ⟨x, y, z, rfl⟩ : ∃ x y z, l = [x, y, z] := by
        have h3 : l.length = 3 := by simp [argsOf] at ha; omega
        match l, h3 with
        | [x, y, z], _ => exact ⟨x, y, z, rfl⟩
      have h1 := hsub x (by simp)
      have h2 := hsub y (by simp)
      have h3 := hsub z (by simp)
      have e1 : Ex.text (.mk 20 pl nm it dn a cap [x, y, z]) = [105, 102, 32] ++ x.text ++ [32, 116, 104, 101, 110, 32] ++ y.text ++ [32, 101, 108, 115, 101, 32] ++ z.text := rfl
      rw [e1]
      simp only [Ex.size, sizes, List.length_append, List.length_cons, List.length_nil]
      omega
    by_cases k24 : kd = 24
    · subst k24
      obtain ⟨x, rfl⟩ := lone (l := l) (by simp [argsOf] at ha; omega)
      have h1 := one x rfl
      have h2 := par_len 9 x.kd x.text
      have e1 : Ex.text (.mk 24 pl nm it dn a cap [x]) = par 9 (x.kd, x.text) ++ [32, 42, 94, 32] ++ Lib.itoa it := rfl
      rw [e1]
      simp only [Ex.size, sizes, List.length_append, List.length_cons, List.length_nil]
      omega
    by_cases k25 : kd = 25
    · subst k25
      obtain ⟨x, rfl⟩ := lone (l := l) (by simp [argsOf] at ha; omega)
      have h1 := one x rfl
      have h2 := par_len 9 x.kd x.text
      have e1 : Ex.text (.mk 25 pl nm it dn a cap [x]) = par 9 (x.kd, x.text) ++ [32, 47, 94, 32] ++ Lib.itoa it := rfl
      rw [e1]
      simp only [Ex.size, sizes, List.length_append, List.length_cons, List.length_nil]
      omega
    by_cases k26 : kd = 26
    · subst k26
      obtain ⟨x, rfl⟩ := lone (l := l) (by simp [argsOf] at ha; omega)
      have h1 := one x rfl
      have h2 := par_len 9 x.kd x.text
      have e1 : Ex.text (.mk 26 pl nm it dn a cap [x]) = par 9 (x.kd, x.text) ++ [32, 126, 62, 32] ++ Lib.itoa it ++ [47] ++ Lib.itoa dn := rfl
      rw [e1]
      simp only [Ex.size, sizes, List.length_append, List.length_cons, List.length_nil]
      omega
    have hk : isTwo kd := by unfold isTwo; omega
    have h2 : argsOf kd = 2 := by unfold isTwo at hk; unfold argsOf; rw [if_neg (by omega), if_neg (by omega), if_neg (by omega), if_pos hk]
    obtain ⟨x, y, rfl⟩ := two (l := l) (by rw [h2] at ha; omega)
    have h1 := hsub x (by simp)
    have h3 := hsub y (by simp)
    have h4 := par_len (firstOf kd) x.kd x.text
    have h5 := par_len (secondOf kd) y.kd y.text
    have h6 := sign_len kd
    rw [two_text hk]
    simp only [Ex.size, sizes, List.length_append]
    omega
end Go.Proofs.YtbahpbinilnfoaaDoor
