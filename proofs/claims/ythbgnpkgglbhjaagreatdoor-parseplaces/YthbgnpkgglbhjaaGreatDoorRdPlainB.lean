/- What the grammar reads stands in the source where it says. No program in sight. -/
import Derived.Test.YthbgnpkgglbhjaaGreatDoorLexSome
import Derived.Test.YthbgnpkgglbhjaaGreatDoorRdWeigh
namespace Go.Proofs.YthbgnpkgglbhjaaGreatDoor
open Go.RowKit
open Ex.size Ex.depth Ex.lies Ex.bulk Ex.good Ex.bare
/-- The token stands in the source where it says. -/
def Tok.stands (s : ByteArray) (t : Tok) : Prop := (t.kind ≠ 0 ∨ t.text ≠ ⟨#[]⟩) → t.place < s.size ∧ t.place + t.text.size ≤ s.size ∧ s.extract t.place (t.place + t.text.size) = t.text ∧ (t.kind = 2 → digitB (byteAt s t.place) = true)
/-- Tokens of the source, from a place on, one behind the other. -/
def Src (s : ByteArray) (lo : Nat) (ts : List Tok) : Prop := (∀ t ∈ ts, lo ≤ t.place ∧ t.stands s) ∧ ts.Pairwise fun a b => a.place < b.place
theorem Src.nil {s : ByteArray} {lo : Nat} : Src s lo [] := ⟨fun _ h => (List.not_mem_nil h).elim, List.Pairwise.nil⟩
theorem Src.low {s : ByteArray} {lo lo' : Nat} {ts : List Tok} (h : Src s lo ts) (hl : lo' ≤ lo) : Src s lo' ts := ⟨fun t ht => ⟨Nat.le_trans hl (h.1 t ht).1, (h.1 t ht).2⟩, h.2⟩
theorem Src.tail {s : ByteArray} {lo : Nat} {ts : List Tok} (h : Src s lo ts) : Src s lo ts.tail := by
  cases ts with
  | nil => exact h
  | cons t r => exact ⟨fun x hx => h.1 x (List.mem_cons_of_mem _ hx), (List.pairwise_cons.1 h.2).2⟩
/-- The first token, where there is something. -/
theorem Src.head {s : ByteArray} {lo : Nat} {ts : List Tok} (h : Src s lo ts) (hn : (hd ts).kind ≠ 0 ∨ (hd ts).text ≠ ⟨#[]⟩) : lo ≤ (hd ts).place ∧ ((hd ts).place < s.size ∧ (hd ts).place + (hd ts).text.size ≤ s.size ∧ s.extract (hd ts).place ((hd ts).place + (hd ts).text.size) = (hd ts).text ∧ ((hd ts).kind = 2 → digitB (byteAt s (hd ts).place) = true)) ∧ Src s ((hd ts).place + 1) ts.tail := by
  cases ts with
  | nil => rcases hn with h | h <;> exact absurd rfl h
  | cons t r =>
    obtain ⟨h1, h2⟩ := h.1 t (by simp)
    exact ⟨h1, h2 hn, fun x hx => ⟨(List.pairwise_cons.1 h.2).1 x hx, (h.1 x (List.mem_cons_of_mem _ hx)).2⟩, (List.pairwise_cons.1 h.2).2⟩
theorem tok_stands {s : ByteArray} {k : Nat} (hk : k < s.size) (he : (tokenOf s k).2 = 0) : (tokenOf s k).1.stands s := fun _ => by
  obtain ⟨h1, h2, h3⟩ := tok_size hk he
  rw [h3]
  refine ⟨hk, h2, tok_text hk he, fun h => ?_⟩
  unfold tokenOf at h he
  by_cases q1 : letterB (byteAt s k) = true
  · rw [if_pos q1] at h he
    split at h
    · simp only at h
      split at h <;> simp at h
    · simp at h
  · rw [if_neg q1] at h he
    by_cases q2 : digitB (byteAt s k) = true
    · exact q2
    · rw [if_neg q2] at h
      cases hs : signAt s k signTexts <;> simp [hs, signTok] at h
theorem scan_src (s : ByteArray) (k : Nat) (acc : List Tok) (hk : k ≤ s.size) (ha : Src s 0 acc) (hb : ∀ t ∈ acc, t.place < k) : Src s 0 (scanFrom s k acc).1 := by
  induction hm : s.size - k using Nat.strongRecOn generalizing k acc with
  | ind m ih =>
    have app : ∀ t : Tok, t.stands s → (∀ x ∈ acc, x.place < t.place) → Src s 0 (acc ++ [t]) := fun t ht hp => by
      refine ⟨fun x hx => ?_, ?_⟩
      · rcases List.mem_append.1 hx with hx | hx
        · exact ha.1 x hx
        · rw [List.mem_singleton.1 hx]; exact ⟨Nat.zero_le _, ht⟩
      · rw [List.pairwise_append]
        refine ⟨ha.2, by simp, fun x hx y hy => ?_⟩
        rw [List.mem_singleton.1 hy]
        exact hp x hx
    by_cases h1 : k < s.size
    · by_cases h2 : (tokenOf s k).2 = 0
      · by_cases h3 : acc.length + 1 < 16384
        · rw [← scan_step h1 h2 h3]
          have h4 := tok_on h1 h2
          obtain ⟨h5, h6, h7⟩ := tok_size h1 h2
          have h8 := afterTo_ge s (k + (tokenOf s k).1.text.size)
          refine ih (s.size - afterTo s (k + (tokenOf s k).1.text.size)) (by omega) _ _ (afterTo_le s _ h6) (app _ (tok_stands h1 h2) fun x hx => by rw [h7]; exact hb x hx) (fun t ht => ?_) rfl
          rcases List.mem_append.1 ht with ht | ht
          · have := hb t ht; omega
          · rw [List.mem_singleton.1 ht, h7]; exact h4
        · rw [scan_full h1 h2 h3]; exact Src.nil
      · rw [scan_wrong h1 h2]; exact Src.nil
    · rw [scan_end h1]
      exact app _ (fun h => by rcases h with h | h <;> exact absurd rfl h) fun x hx => by have := hb x hx; show x.place < s.size; omega
theorem lex_src (s : ByteArray) : Src s 0 (lexOf s).1 := by
  unfold lexOf
  split
  · exact Src.nil
  · exact scan_src s _ [] (afterTo_le s 0 (Nat.zero_le _)) Src.nil fun t ht => (List.not_mem_nil ht).elim
/-- Each name, number and call of a tree stands in the source where it says, no Arg ahead of its expression. -/
def Ex.stands (s : ByteArray) : Ex → Prop
  | .mk kd pl nm _ _ _ _ l => (0 ≤ pl ∧ pl < s.size) ∧ ((kd = 1 ∨ kd = 4) → pl.toNat + nm.size ≤ s.size ∧ s.extract pl.toNat (pl.toNat + nm.size) = nm) ∧ (kd = 2 → digitB (byteAt s pl.toNat) = true) ∧ allStand pl l
where allStand (pl : Int) : List Ex → Prop
  | [] => True
  | e :: r => pl ≤ e.pl ∧ e.stands s ∧ allStand pl r
open Ex.stands
theorem allStand_app {s : ByteArray} {pl : Int} (a b : List Ex) : allStand s pl (a ++ b) ↔ allStand s pl a ∧ allStand s pl b := by
  induction a with
  | nil => simp [allStand]
  | cons e r ih => simp only [List.cons_append, allStand, ih]; constructor <;> (intro h; simp_all)
theorem sgn_kind {rule k : Int} {ts : List Tok} (h : sgn rule ts = some k) : k ≠ 1 ∧ k ≠ 2 ∧ k ≠ 4 := by
  have h1 : ∀ x ∈ signTab, x.2.2 ≠ 1 ∧ x.2.2 ≠ 2 ∧ x.2.2 ≠ 4 := by decide +kernel
  unfold sgn at h
  split at h
  · rename_i r k' hs
    split at h
    · obtain ⟨x, hx, hx2⟩ := Option.map_eq_some_iff.1 hs
      have h2 := h1 x (List.mem_of_find?_eq_some hx)
      rw [hx2] at h2
      injection h with h
      rw [← h]
      exact h2
    · cases h
  · cases h
/-- What is read: a tree from a place on, that stands, and tokens behind its place. -/
def Std (s : ByteArray) (lo : Nat) (p : PR Ex) : Prop := ∀ e t2, p = .ok (e, t2) → ∃ q : Nat, e.pl = q ∧ lo ≤ q ∧ e.stands s ∧ Src s (q + 1) t2
/-- What is read leaves tokens of the source. -/
def Lft {α : Type} (s : ByteArray) (lo : Nat) (p : PR α) : Prop := ∀ a t2, p = .ok (a, t2) → Src s lo t2
theorem Std.error {s : ByteArray} {lo : Nat} {k : Nat × Int} : Std s lo (.error k) := fun _ _ e => by cases e
theorem Std.ok {s : ByteArray} {lo : Nat} {e : Ex} {t2 : List Tok} (q : Nat) (h : e.pl = q) (hl : lo ≤ q) (hs : e.stands s) (ht : Src s (q + 1) t2) : Std s lo (.ok (e, t2)) := fun _ _ h2 => by
  simp only [Except.ok.injEq, Prod.mk.injEq] at h2
  rw [← h2.1, ← h2.2]; exact ⟨q, h, hl, hs, ht⟩
theorem Std.then {s : ByteArray} {lo lo2 : Nat} {p : PR Ex} {f : Ex → List Tok → PR Ex} (h : Std s lo p) (hf : ∀ (a : Ex) t2 (q : Nat), a.pl = q → lo ≤ q → a.stands s → Src s (q + 1) t2 → Std s lo2 (f a t2)) : Std s lo2 (p.then f) := fun b t3 e => by
  cases p with
  | error k => cases e
  | ok r =>
    obtain ⟨q, h1, h2, h3, h4⟩ := h r.1 r.2 rfl
    exact hf r.1 r.2 q h1 h2 h3 h4 b t3 e
theorem Lft.then {α : Type} {s : ByteArray} {lo lo2 : Nat} {p : PR α} {f : α → List Tok → PR Ex} (h : Lft s lo p) (hf : ∀ a t2, Src s lo t2 → Std s lo2 (f a t2)) : Std s lo2 (p.then f) := fun b t3 e => by
  cases p with
  | error k => cases e
  | ok r => exact hf r.1 r.2 (h r.1 r.2 rfl) b t3 e
theorem Lft.thenL {α β : Type} {s : ByteArray} {lo lo2 : Nat} {p : PR α} {f : α → List Tok → PR β} (h : Lft s lo p) (hf : ∀ a t2, Src s lo t2 → Lft s lo2 (f a t2)) : Lft s lo2 (p.then f) := fun b t3 e => by
  cases p with
  | error k => cases e
  | ok r => exact hf r.1 r.2 (h r.1 r.2 rfl) b t3 e
theorem Lft.error {α : Type} {s : ByteArray} {lo : Nat} {k : Nat × Int} : Lft s lo (.error k : PR α) := fun _ _ e => by cases e
theorem Lft.ok {α : Type} {s : ByteArray} {lo : Nat} {a : α} {t2 : List Tok} (h : Src s lo t2) : Lft s lo (.ok (a, t2) : PR α) := fun _ _ e => by
  simp only [Except.ok.injEq, Prod.mk.injEq] at e
  rw [← e.2]; exact h
theorem want_lft {s : ByteArray} {lo : Nat} {ts : List Tok} (t : ByteArray) (h : Src s lo ts) : Lft s lo (wantT t ts) := by
  unfold wantT
  split
  · exact Lft.ok h.tail
  · exact Lft.error
theorem num_lft {s : ByteArray} {lo : Nat} {ts : List Tok} (l : Int) (h : Src s lo ts) : Lft s lo (numT l ts) := by
  unfold numT
  split
  · exact Lft.ok h.tail
  · exact Lft.error
theorem name_lft {s : ByteArray} {lo : Nat} {ts : List Tok} (h : Src s lo ts) : Lft s lo (nameT ts) := by
  unfold nameT
  split
  · exact Lft.ok h.tail
  · exact Lft.error
theorem late_lft {s : ByteArray} {lo : Nat} {ts : List Tok} (h : Src s lo ts) : Lft s lo (lateT ts) := by
  unfold lateT
  refine (num_lft 0 h).thenL fun a t1 h1 => ?_
  split
  · exact (num_lft 1 h1.tail).thenL fun b t2 h2 => Lft.ok h2
  · exact Lft.ok h1
theorem open_std {s : ByteArray} {lo op : Nat} {ts : List Tok} {q : List Tok → PR Ex} (h : Std s lo (q ts.tail)) : Std s lo (openT op ts q) := by
  unfold openT
  split
  · exact Std.error
  · exact h
theorem stands_pl {s : ByteArray} : ∀ {e : Ex}, e.stands s → 0 ≤ e.pl ∧ e.pl < s.size
  | .mk _ _ _ _ _ _ _ _, h => h.1
/-- A tree of parts that stand, neither a name nor a number nor a call. -/
theorem mk_stands {s : ByteArray} {k pl it dn : Int} {nm : ByteArray} {l : List Ex} (hk : k ≠ 1 ∧ k ≠ 2 ∧ k ≠ 4) (hp : 0 ≤ pl ∧ pl < s.size) (hl : allStand s pl l) : (Ex.mk k pl nm it dn none 0 l).stands s :=
  ⟨hp, fun h => h.elim (fun h => absurd h hk.1) (fun h => absurd h hk.2.2), fun h => absurd h hk.2.1, hl⟩
theorem mk2_stands {s : ByteArray} {k : Int} {a b : Ex} (hk : k ≠ 1 ∧ k ≠ 2 ∧ k ≠ 4) (ha : a.stands s) (hb : b.stands s) (hab : a.pl ≤ b.pl) : (mk2 k a b).stands s :=
  mk_stands hk (stands_pl ha) ⟨Int.le_refl _, ha, hab, hb, trivial⟩
theorem mk1_stands {s : ByteArray} {k pl it dn : Int} {a : Ex} (hk : k ≠ 1 ∧ k ≠ 2 ∧ k ≠ 4) (ha : a.stands s) (hp : 0 ≤ pl ∧ pl ≤ a.pl) : (mk1 k pl a it dn).stands s :=
  mk_stands hk ⟨hp.1, by have := stands_pl ha; omega⟩ ⟨hp.2, ha, trivial⟩
theorem chain_std {s : ByteArray} (part : List Tok → PR Ex) (hp : ∀ lo ts, Src s lo ts → Std s lo (part ts)) (rule : Int) : ∀ (n : Nat) (e : Ex) (ts : List Tok) (q : Nat), e.pl = (q : Int) → e.stands s → Src s (q + 1) ts → Std s q (chainL part rule n e ts)
  | 0, _, _, _, _, _, _ => Std.error
  | n + 1, e, ts, q, h1, h2, h3 => by
    unfold chainL
    split
    · exact Std.ok q h1 (Nat.le_refl _) h2 h3
    · rename_i k hs
      refine (hp (q + 1) ts.tail h3.tail).then fun b t2 q2 g1 g2 g3 g4 => ?_
      exact chain_std part hp rule n (mk2 k e b) t2 q h1 (mk2_stands (sgn_kind hs) h2 g3 (by omega)) (g4.low (by omega))
theorem post_std {s : ByteArray} : ∀ (n : Nat) (e : Ex) (ts : List Tok) (q : Nat), e.pl = (q : Int) → e.stands s → Src s (q + 1) ts → Std s q (postL n e ts)
  | 0, _, _, _, _, _, _ => Std.error
  | n + 1, e, ts, q, h1, h2, h3 => by
    unfold postL
    split
    · exact Std.ok q h1 (Nat.le_refl _) h2 h3
    · rename_i k hs
      split
      · exact (late_lft h3.tail).then fun x t2 g => post_std n (mk1 k e.pl e x.1 x.2) t2 q h1 (mk1_stands (sgn_kind hs) h2 ⟨(stands_pl h2).1, Int.le_refl _⟩) g
      · exact (num_lft 1 h3.tail).then fun x t2 g => post_std n (mk1 k e.pl e x 0) t2 q h1 (mk1_stands (sgn_kind hs) h2 ⟨(stands_pl h2).1, Int.le_refl _⟩) g
/-- A list that is read: parts that stand, from a place on, and tokens. -/
def StdL (s : ByteArray) (lo : Nat) (p : PR (List Ex)) : Prop := ∀ l t2, p = .ok (l, t2) → allStand s lo l ∧ Src s lo t2
theorem listL_std {s : ByteArray} (lo : Nat) (part : List Tok → PR Ex) (hp : ∀ lo ts, Src s lo ts → Std s lo (part ts)) (sep : ByteArray) : ∀ n l ts, allStand s lo l → Src s lo ts → StdL s lo (listL part sep n l ts)
  | 0, _, _, _, _ => fun _ _ e => by cases e
  | n + 1, l, ts, h1, h2 => by
    unfold listL
    split
    · intro l2 t3 e
      cases hq : part ts.tail with
      | error r => rw [hq] at e; cases e
      | ok r =>
        obtain ⟨b, t2⟩ := r
        rw [hq] at e
        obtain ⟨q, g1, g2, g3, g4⟩ := hp lo ts.tail h2.tail b t2 hq
        exact listL_std lo part hp sep n (l ++ [b]) t2 ((allStand_app l [b]).2 ⟨h1, by omega, g3, trivial⟩) (g4.low (by omega)) l2 t3 e
    · intro l2 t3 e
      simp only [Except.ok.injEq, Prod.mk.injEq] at e
      rw [← e.1, ← e.2]; exact ⟨h1, h2⟩
theorem listT_std {s : ByteArray} (lo : Nat) (part : List Tok → PR Ex) (hp : ∀ lo ts, Src s lo ts → Std s lo (part ts)) (sep : ByteArray) (n : Nat) (ts : List Tok) (h : Src s lo ts) : StdL s lo (listT part sep n ts) := by
  unfold listT
  intro l2 t3 e
  cases hq : part ts with
  | error r => rw [hq] at e; cases e
  | ok r =>
    obtain ⟨b, t2⟩ := r
    rw [hq] at e
    obtain ⟨q, g1, g2, g3, g4⟩ := hp lo ts h b t2 hq
    exact listL_std lo part hp sep n [b] t2 ⟨by omega, g3, trivial⟩ (g4.low (by omega)) l2 t3 e
theorem text_head {s : ByteArray} {lo : Nat} {ts : List Tok} (h : Src s lo ts) {t : ByteArray} (ht : (hd ts).text = t) (hn : t ≠ ⟨#[]⟩) : lo ≤ (hd ts).place ∧ (hd ts).place < s.size ∧ Src s ((hd ts).place + 1) ts.tail := by
  obtain ⟨h1, h2, h3⟩ := h.head (Or.inr (by rw [ht]; exact hn))
  exact ⟨h1, h2.1, h3⟩
theorem leaf_stands {s : ByteArray} {k pl it : Int} (hk : k ≠ 1 ∧ k ≠ 2 ∧ k ≠ 4) (hp : 0 ≤ pl ∧ pl < s.size) : (leafE k pl it).stands s := mk_stands hk hp trivial
theorem allStand_low {s : ByteArray} {a b : Int} (h : b ≤ a) : ∀ {l : List Ex}, allStand s a l → allStand s b l
  | [], _ => trivial
  | _ :: _, ⟨h1, h2, h3⟩ => ⟨Int.le_trans h h1, h2, allStand_low h h3⟩
theorem pp_std (s : ByteArray) : ∀ (n r op lo : Nat) (ts : List Tok), Src s lo ts → Std s lo (pp n r op ts)
  | 0, _, _, _, _, _ => Std.error
  | n + 1, r, op, lo, ts, hS => by
    have ih := pp_std s n
    unfold pp
    by_cases h : r = 0
    · rw [if_pos h]
      split
      · rename_i h
        obtain ⟨h1, h2, h3⟩ := text_head hS h (by decide)
        refine open_std ((ih 0 (op + 1) _ ts.tail h3).then fun a t2 qa a1 a2 a3 a4 => (want_lft _ a4).then fun _ t3 b4 => (ih 0 (op + 1) _ t3 b4).then fun b t4 qb b1 b2 b3 b4 => (want_lft _ b4).then fun _ t5 c4 => (ih 0 (op + 1) _ t5 c4).then fun c t6 qc c1 c2 c3 c4 => ?_)
        exact Std.ok (hd ts).place rfl h1 (mk_stands (by decide) ⟨by omega, by omega⟩ ⟨by omega, a3, by omega, b3, by omega, c3, trivial⟩) (c4.low (by omega))
      · exact ih 1 op lo ts hS
    rw [if_neg h]
    clear h
    by_cases h : r = 1
    · rw [if_pos h]
      refine (ih 2 op lo ts hS).then fun a t1 qa a1 a2 a3 a4 => ?_
      split
      · exact Std.ok qa a1 a2 a3 a4
      · rename_i k hs
        refine open_std ((ih 1 (op + 1) _ t1.tail a4.tail).then fun b t2 qb b1 b2 b3 b4 => ?_)
        exact Std.ok qa a1 a2 (mk2_stands (sgn_kind hs) a3 b3 (by omega)) (b4.low (by omega))
    rw [if_neg h]
    clear h
    by_cases h : r = 2
    · rw [if_pos h]
      refine (ih 3 op lo ts hS).then fun a t1 qa a1 a2 a3 a4 => fun e t2 he => ?_
      obtain ⟨q, q1, q2, q3, q4⟩ := chain_std _ (fun lo ts hS => ih 3 op lo ts hS) 1 n a t1 qa a1 a3 a4 e t2 he
      exact ⟨q, q1, by omega, q3, q4⟩
    rw [if_neg h]
    clear h
    by_cases h : r = 3
    · rw [if_pos h]
      refine (ih 4 op lo ts hS).then fun a t1 qa a1 a2 a3 a4 => fun e t2 he => ?_
      obtain ⟨q, q1, q2, q3, q4⟩ := chain_std _ (fun lo ts hS => ih 4 op lo ts hS) 2 n a t1 qa a1 a3 a4 e t2 he
      exact ⟨q, q1, by omega, q3, q4⟩
    rw [if_neg h]
    clear h
    by_cases h : r = 4
    · rw [if_pos h]
      split
      · rename_i h
        obtain ⟨h1, h2, h3⟩ := text_head hS h (by decide)
        refine open_std ((ih 4 (op + 1) _ ts.tail h3).then fun a t2 qa a1 a2 a3 a4 => ?_)
        exact Std.ok (hd ts).place rfl h1 (mk1_stands (by decide) a3 ⟨by omega, by omega⟩) (a4.low (by omega))
      · exact ih 5 op lo ts hS
    rw [if_neg h]
    clear h
    by_cases h : r = 5
    · rw [if_pos h]
      refine (ih 6 op lo ts hS).then fun a t1 qa a1 a2 a3 a4 => ?_
      split
      · exact Std.ok qa a1 a2 a3 a4
      · rename_i k hs
        refine (ih 6 op _ t1.tail a4.tail).then fun b t2 qb b1 b2 b3 b4 => ?_
        exact Std.ok qa a1 a2 (mk2_stands (sgn_kind hs) a3 b3 (by omega)) (b4.low (by omega))
    rw [if_neg h]
    clear h
    by_cases h : r = 6
    · rw [if_pos h]
      refine (ih 7 op lo ts hS).then fun a t1 qa a1 a2 a3 a4 => fun e t2 he => ?_
      obtain ⟨q, q1, q2, q3, q4⟩ := chain_std _ (fun lo ts hS => ih 7 op lo ts hS) 4 n a t1 qa a1 a3 a4 e t2 he
      exact ⟨q, q1, by omega, q3, q4⟩
    rw [if_neg h]
    clear h
    by_cases h : r = 7
    · rw [if_pos h]
      refine (ih 8 op lo ts hS).then fun a t1 qa a1 a2 a3 a4 => fun e t2 he => ?_
      obtain ⟨q, q1, q2, q3, q4⟩ := chain_std _ (fun lo ts hS => ih 8 op lo ts hS) 5 n a t1 qa a1 a3 a4 e t2 he
      exact ⟨q, q1, by omega, q3, q4⟩
    rw [if_neg h]
    clear h
    by_cases h : r = 8
    · rw [if_pos h]
      split
      · rename_i h
        obtain ⟨h1, h2, h3⟩ := text_head hS h (by decide)
        refine open_std ((ih 8 (op + 1) _ ts.tail h3).then fun a t2 qa a1 a2 a3 a4 => ?_)
        exact Std.ok (hd ts).place rfl h1 (mk1_stands (by decide) a3 ⟨by omega, by omega⟩) (a4.low (by omega))
      · split
        · rename_i h
          obtain ⟨h1, h2, h3⟩ := text_head hS h (by decide)
          refine open_std ((ih 8 (op + 1) _ ts.tail h3).then fun a t2 qa a1 a2 a3 a4 => ?_)
          exact Std.ok (hd ts).place rfl h1 (mk1_stands (by decide) a3 ⟨by omega, by omega⟩) (a4.low (by omega))
        · exact ih 9 op lo ts hS
    rw [if_neg h]
    clear h
    by_cases h : r = 9
    · rw [if_pos h]
      refine (ih 10 op lo ts hS).then fun a t1 qa a1 a2 a3 a4 => fun e t2 he => ?_
      obtain ⟨q, q1, q2, q3, q4⟩ := post_std n a t1 qa a1 a3 a4 e t2 he
      exact ⟨q, q1, by omega, q3, q4⟩
    rw [if_neg h]
    clear h
    by_cases h : (hd ts).kind = 2
    · rw [if_pos h]
      obtain ⟨h1, ⟨h2, h3, h4, h5⟩, h6⟩ := hS.head (Or.inl (by rw [h]; decide))
      exact Std.ok (hd ts).place rfl h1 ⟨⟨by omega, by omega⟩, fun h => h.elim (fun h => absurd h (by decide)) (fun h => absurd h (by decide)), fun _ => h5 h, trivial⟩ h6
    rw [if_neg h]
    clear h
    by_cases h : (hd ts).kind = 1
    · rw [if_pos h]
      obtain ⟨h1, ⟨h2, h3, h4, h5⟩, h6⟩ := hS.head (Or.inl (by rw [h]; decide))
      split
      · refine open_std fun e t3 he => ?_
        cases hq : listT (pp n 0 (op + 1)) ⟨#[44]⟩ n ts.tail.tail with
        | error r => rw [hq] at he; cases he
        | ok r =>
          obtain ⟨l, t2⟩ := r
          rw [hq] at he
          obtain ⟨g1, g2⟩ := listT_std ((hd ts).place + 1) (pp n 0 (op + 1)) (fun lo ts hS => ih 0 (op + 1) lo ts hS) ⟨#[44]⟩ n ts.tail.tail h6.tail l t2 hq
          refine Lft.then (lo2 := lo) (want_lft ⟨#[41]⟩ g2) (fun _ t3 g3 => ?_) e t3 he
          exact Std.ok (hd ts).place rfl h1 ⟨⟨by omega, by omega⟩, fun _ => ⟨h3, h4⟩, fun h => absurd h (by decide), allStand_low (by omega) g1⟩ g3
      · exact Std.ok (hd ts).place rfl h1 ⟨⟨by omega, by omega⟩, fun _ => ⟨h3, h4⟩, fun h => absurd h (by decide), trivial⟩ h6
    rw [if_neg h]
    clear h
    by_cases h : (hd ts).text = ⟨#[116, 114, 117, 101]⟩
    · rw [if_pos h]
      obtain ⟨h1, h2, h3⟩ := text_head hS h (by decide)
      exact Std.ok (hd ts).place rfl h1 (leaf_stands (by decide) ⟨by omega, by omega⟩) h3
    rw [if_neg h]
    clear h
    by_cases h : (hd ts).text = ⟨#[102, 97, 108, 115, 101]⟩
    · rw [if_pos h]
      obtain ⟨h1, h2, h3⟩ := text_head hS h (by decide)
      exact Std.ok (hd ts).place rfl h1 (leaf_stands (by decide) ⟨by omega, by omega⟩) h3
    rw [if_neg h]
    clear h
    by_cases h : (hd ts).text = ⟨#[40]⟩
    · rw [if_pos h]
      obtain ⟨h1, h2, h3⟩ := text_head hS h (by decide)
      refine open_std ((ih 0 (op + 1) _ ts.tail h3).then fun a t2 qa a1 a2 a3 a4 => (want_lft _ a4).then fun _ t3 b4 => ?_)
      exact Std.ok qa a1 (by omega) a3 b4
    rw [if_neg h]
    exact Std.error
end Go.Proofs.YthbgnpkgglbhjaaGreatDoor
/- Nodes that are read stand in the source where they say. No program in sight. -/
namespace Go.Proofs.YthbgnpkgglbhjaaGreatDoor
open Go.RowKit
open Ex.size Ex.depth Ex.lies Ex.bulk Ex.good Ex.bare Ex.stands
def Pm.stands (s : ByteArray) (p : Pm) : Prop := 0 ≤ p.pl ∧ p.pl.toNat + p.nm.size ≤ s.size ∧ s.extract p.pl.toNat (p.pl.toNat + p.nm.size) = p.nm
/-- The word node, or flow. -/
def NodeWord (t : ByteArray) : Prop := t = ⟨#[110, 111, 100, 101]⟩ ∨ t = ⟨#[102, 108, 111, 119]⟩
/-- A node, its Ins, its equations stand in the source where they say. -/
def Nd.stands (s : ByteArray) (n : Nd) : Prop := 0 ≤ n.pl ∧ n.pl.toNat + 4 ≤ s.size ∧ NodeWord (s.extract n.pl.toNat (n.pl.toNat + 4)) ∧ (∀ p ∈ n.ins, p.stands s) ∧ ∀ q ∈ n.eqs, n.pl < q.pq ∧ q.e.stands s
/-- What is read is so, and leaves tokens of the source. -/
def Hld {α : Type} (P : α → Prop) (s : ByteArray) (lo : Nat) (p : PR α) : Prop := ∀ a t2, p = .ok (a, t2) → P a ∧ Src s lo t2
theorem Hld.error {α : Type} {P : α → Prop} {s : ByteArray} {lo : Nat} {k : Nat × Int} : Hld P s lo (.error k) := fun _ _ e => by cases e
theorem Hld.ok {α : Type} {P : α → Prop} {s : ByteArray} {lo : Nat} {a : α} {t2 : List Tok} (h : P a) (ht : Src s lo t2) : Hld P s lo (.ok (a, t2)) := fun _ _ e => by
  simp only [Except.ok.injEq, Prod.mk.injEq] at e
  rw [← e.1, ← e.2]; exact ⟨h, ht⟩
theorem Hld.then {α β : Type} {P : α → Prop} {Q : β → Prop} {s : ByteArray} {lo lo2 : Nat} {p : PR α} {f : α → List Tok → PR β} (h : Hld P s lo p) (hf : ∀ a t2, P a → Src s lo t2 → Hld Q s lo2 (f a t2)) : Hld Q s lo2 (p.then f) := fun b t3 e => by
  cases p with
  | error k => cases e
  | ok r =>
    obtain ⟨h1, h2⟩ := h r.1 r.2 rfl
    exact hf r.1 r.2 h1 h2 b t3 e
theorem Lft.thenH {α β : Type} {Q : β → Prop} {s : ByteArray} {lo lo2 : Nat} {p : PR α} {f : α → List Tok → PR β} (h : Lft s lo p) (hf : ∀ a t2, Src s lo t2 → Hld Q s lo2 (f a t2)) : Hld Q s lo2 (p.then f) := fun b t3 e => by
  cases p with
  | error k => cases e
  | ok r => exact hf r.1 r.2 (h r.1 r.2 rfl) b t3 e
theorem Hld.lft {α : Type} {P : α → Prop} {s : ByteArray} {lo : Nat} {p : PR α} (h : Hld P s lo p) : Lft s lo p := fun a t2 e => (h a t2 e).2
theorem param_hld {s : ByteArray} {lo : Nat} {ts : List Tok} (h : Src s lo ts) : Hld (Pm.stands s) s lo (paramT ts) := by
  by_cases hk : (hd ts).kind = 1
  · obtain ⟨h1, ⟨h2, h3, h4, h5⟩, h6⟩ := h.head (Or.inl (by rw [hk]; decide))
    unfold paramT nameT
    rw [if_pos hk]
    show Hld _ _ _ ((wantT ⟨#[58]⟩ ts.tail).then _)
    refine (want_lft _ h.tail).thenH fun _ t2 g2 => ?_
    split
    · exact Hld.ok ⟨by show (0 : Int) ≤ (hd ts).place; omega, h3, h4⟩ g2.tail
    · exact (want_lft _ g2).thenH fun _ t3 g3 => Hld.ok ⟨by show (0 : Int) ≤ (hd ts).place; omega, h3, h4⟩ g3
  · unfold paramT nameT
    rw [if_neg hk]
    exact Hld.error
theorem in_hld {s : ByteArray} {lo : Nat} {ts : List Tok} (h : Src s lo ts) : Hld (Pm.stands s) s lo (inT ts) := by
  unfold inT
  refine (param_hld h).then fun p t1 hp h1 => ?_
  split
  · exact (want_lft _ h1.tail).thenH fun _ t2 h2 => (num_lft 1 h2).thenH fun a t3 h3 => (want_lft _ h3).thenH fun _ t4 h4 => (num_lft 0 h4).thenH fun b t5 h5 => (want_lft _ h5).thenH fun _ t6 h6 => Hld.ok hp h6
  · exact Hld.ok hp h1
theorem out_hld {s : ByteArray} {lo : Nat} {ts : List Tok} (h : Src s lo ts) : Hld (Pm.stands s) s lo (outT ts) := by
  unfold outT
  refine (param_hld h).then fun p t1 hp h1 => ?_
  split
  · exact (num_lft 1 h1.tail).thenH fun a t2 h2 => Hld.ok hp h2
  · exact Hld.ok hp h1
theorem listL_hld {α : Type} {P : α → Prop} {s : ByteArray} {lo : Nat} (part : List Tok → PR α) (hp : ∀ ts, Src s lo ts → Hld P s lo (part ts)) (sep : ByteArray) : ∀ n l ts, (∀ x ∈ l, P x) → Src s lo ts → Hld (fun l => ∀ x ∈ l, P x) s lo (listL part sep n l ts)
  | 0, _, _, _, _ => Hld.error
  | n + 1, l, ts, h1, h2 => by
    unfold listL
    split
    · refine (hp ts.tail h2.tail).then fun x t2 hx g2 => listL_hld part hp sep n (l ++ [x]) t2 (fun y hy => ?_) g2
      rcases List.mem_append.1 hy with hy | hy
      · exact h1 y hy
      · rw [List.mem_singleton.1 hy]; exact hx
    · exact Hld.ok h1 h2
theorem listT_hld {α : Type} {P : α → Prop} {s : ByteArray} {lo : Nat} (part : List Tok → PR α) (hp : ∀ ts, Src s lo ts → Hld P s lo (part ts)) (sep : ByteArray) (n : Nat) (ts : List Tok) (h : Src s lo ts) : Hld (fun l => ∀ x ∈ l, P x) s lo (listT part sep n ts) := by
  unfold listT
  exact (hp ts h).then fun x t2 hx g2 => listL_hld part hp sep n [x] t2 (fun y hy => by rw [List.mem_singleton.1 hy]; exact hx) g2
theorem params_hld {s : ByteArray} {lo : Nat} (one : List Tok → PR Pm) (hp : ∀ ts, Src s lo ts → Hld (Pm.stands s) s lo (one ts)) (n : Nat) (ts : List Tok) (h : Src s lo ts) : Hld (fun l => ∀ x ∈ l, x.stands s) s lo (paramsT one n ts) := by
  unfold paramsT
  refine (want_lft _ h).thenH fun _ t1 h1 => ?_
  split
  · exact Hld.ok (fun x hx => (List.not_mem_nil hx).elim) h1.tail
  · exact (listT_hld one hp _ n t1 h1).then fun l t2 hl h2 => (want_lft _ h2).thenH fun _ t3 h3 => Hld.ok hl h3
theorem vars_lft {s : ByteArray} {lo : Nat} : ∀ n l ts, Src s lo ts → Lft s lo (varsL n l ts)
  | 0, _, _, _ => Lft.error
  | n + 1, l, ts, h => by
    unfold varsL
    split
    · exact Lft.ok h
    · exact (param_hld h).lft.thenL fun p t1 h1 => (want_lft _ h1).thenL fun _ t2 h2 => vars_lft n _ t2 h2
theorem varsT_lft {s : ByteArray} {lo : Nat} (n : Nat) (ts : List Tok) (h : Src s lo ts) : Lft s lo (varsT n ts) := by
  unfold varsT
  split
  · exact vars_lft n [] ts.tail h.tail
  · exact Lft.ok h
/-- An equation stands behind that place. -/
def EqnAt (s : ByteArray) (lo : Nat) (q : Eqn) : Prop := (lo : Int) ≤ q.pq ∧ q.e.stands s
theorem eqR_hld {s : ByteArray} {lo : Nat} (n op : Nat) (pl : Int) (hpl : (lo : Int) ≤ pl) (ns : List ByteArray) (ts : List Tok) (h : Src s lo ts) : Hld (EqnAt s lo) s lo (eqR n op pl ns ts) := by
  unfold eqR
  refine (want_lft _ h).thenH fun _ t1 h1 => fun q t3 he => ?_
  cases hq : pp n 0 op t1 with
  | error r => rw [hq] at he; cases he
  | ok r =>
    obtain ⟨e, t2⟩ := r
    rw [hq] at he
    obtain ⟨k, k1, k2, k3, k4⟩ := pp_std s n 0 op lo t1 h1 e t2 hq
    exact (want_lft ⟨#[59]⟩ (k4.low (lo' := lo) (by omega))).thenH (Q := EqnAt s lo) (lo2 := lo) (fun _ t3 g3 => Hld.ok ⟨hpl, k3⟩ g3) q t3 he
theorem eqT_hld {s : ByteArray} {lo : Nat} (n op : Nat) (ts : List Tok) (h : Src s lo ts) : Hld (EqnAt s lo) s lo (eqT n op ts) := by
  unfold eqT
  split
  · rename_i ht
    obtain ⟨h1, h2, h3⟩ := text_head h ht (by decide)
    refine (listT_hld (P := fun _ => True) nameT (fun ts h => fun a t2 e => ⟨trivial, name_lft h a t2 e⟩) _ n ts.tail h.tail).then fun ns t1 _ g1 => (want_lft _ g1).thenH fun _ t2 g2 => eqR_hld n op _ (by omega) ns t2 g2
  · by_cases hk : (hd ts).kind = 1
    · obtain ⟨h1, -, -⟩ := h.head (Or.inl (by rw [hk]; decide))
      exact (name_lft h).thenH fun x t1 g1 => eqR_hld n op _ (by omega) [x] t1 g1
    · unfold nameT
      rw [if_neg hk]
      exact Hld.error
theorem eqs_hld {s : ByteArray} {lo : Nat} (n op : Nat) : ∀ k l ts, (∀ q ∈ l, EqnAt s lo q) → Src s lo ts → Hld (fun l => ∀ q ∈ l, EqnAt s lo q) s lo (eqsL n op k l ts)
  | 0, _, _, _, _ => Hld.error
  | k + 1, l, ts, h1, h2 => by
    unfold eqsL
    split
    · exact Hld.ok h1 h2.tail
    · refine (eqT_hld n op ts h2).then fun q t1 hq g1 => eqs_hld n op k (l ++ [q]) t1 (fun y hy => ?_) g1
      rcases List.mem_append.1 hy with hy | hy
      · exact h1 y hy
      · rw [List.mem_singleton.1 hy]; exact hq
theorem inOf_hld {s : ByteArray} {lo : Nat} (fl : Bool) (ts : List Tok) (h : Src s lo ts) : Hld (Pm.stands s) s lo (inOf fl ts) := by
  unfold inOf
  split
  · exact in_hld h
  · exact param_hld h
theorem outOf_hld {s : ByteArray} {lo : Nat} (fl : Bool) (ts : List Tok) (h : Src s lo ts) : Hld (Pm.stands s) s lo (outOf' fl ts) := by
  unfold outOf'
  split
  · exact out_hld h
  · exact param_hld h
theorem node_hld {s : ByteArray} {lo : Nat} (n op : Nat) (ts : List Tok) (hi : isNode (hd ts)) (h : Src s lo ts) : Hld (Nd.stands s) s lo (nodeT n op ts) := by
  have hw : NodeWord (hd ts).text := hi
  have hsz : (hd ts).text.size = 4 := by rcases hi with e | e <;> (rw [e]; rfl)
  obtain ⟨h1, ⟨h2, h3, h4, -⟩, h5⟩ := h.head (Or.inr (fun e => by rw [e] at hsz; exact absurd hsz (by decide)))
  rw [hsz] at h3 h4
  unfold nodeT
  refine (name_lft h5).thenH fun x t1 g1 => (params_hld _ (fun ts h => inOf_hld _ ts h) n t1 g1).then fun i t2 hi2 g2 => (want_lft _ g2).thenH fun _ t3 g3 => (params_hld _ (fun ts h => outOf_hld _ ts h) n t3 g3).then fun o t4 _ g4 => (varsT_lft n t4 g4).thenH fun v t5 g5 => (want_lft _ g5).thenH fun _ t6 g6 => (eqs_hld n op n [] t6 (fun q hq => (List.not_mem_nil hq).elim) g6).then fun q t7 hq g7 => Hld.ok ⟨by show (0 : Int) ≤ (hd ts).place; omega, h3, ?_, hi2, fun y hy => ⟨?_, (hq y hy).2⟩⟩ (g7.low (by omega))
  · show NodeWord (s.extract (hd ts).place ((hd ts).place + 4))
    rw [h4]; exact hw
  · have := (hq y hy).1
    show ((hd ts).place : Int) < y.pq
    omega
theorem nodes_hld {s : ByteArray} {lo : Nat} (n op : Nat) : ∀ k l ts, (∀ x ∈ l, Nd.stands s x) → Src s lo ts → Hld (fun l => ∀ x ∈ l, Nd.stands s x) s lo (nodesL n op k l ts)
  | 0, _, _, _, _ => Hld.error
  | k + 1, l, ts, h1, h2 => by
    unfold nodesL
    split
    · rename_i hi
      refine (node_hld n op ts hi h2).then fun q t1 hq g1 => nodes_hld n op k (l ++ [q]) t1 (fun y hy => ?_) g1
      rcases List.mem_append.1 hy with hy | hy
      · exact h1 y hy
      · rw [List.mem_singleton.1 hy]; exact hq
    · exact Hld.ok h1 h2
end Go.Proofs.YthbgnpkgglbhjaaGreatDoor
