/- The reader of package parse: all rules of expressions. -/
import Derived.Test.YthbgnpkgglbhjaaGreatDoorRdOps3
import Derived.Test.YthbgnpkgglbhjaaGreatDoorRdOps4
import Derived.Test.YthbgnpkgglbhjaaGreatDoorRdSp
namespace Go.Proofs.YthbgnpkgglbhjaaGreatDoor
open Go.RowKit Go.Shelf
open Ex.size Ex.depth Ex.lies Ex.bulk Ex.good Ex.bare
theorem pp_all {W0 : World} {R : Nat} : ∀ n, DoesE W0 R 34 (pp n 0) ∧ DoesE W0 R 63 (pp n 1) ∧ DoesE W0 R 100 (pp n 2) ∧ DoesE W0 R 127 (pp n 3) ∧ DoesE W0 R 137 (pp n 4) ∧ DoesE W0 R 148 (pp n 5) ∧ DoesE W0 R 159 (pp n 6) ∧ DoesE W0 R 161 (pp n 7) ∧ DoesE W0 R 163 (pp n 8) ∧ DoesE W0 R 168 (pp n 9) ∧ DoesE W0 R 174 (pp n 10)
  | 0 => by
    have h : ∀ f r, DoesE W0 R f (pp 0 r) := fun f r op ts w _ _ hns => absurd rfl (hns 0)
    exact ⟨h _ _, h _ _, h _ _, h _ _, h _ _, h _ _, h _ _, h _ _, h _ _, h _ _, h _ _⟩
  | n + 1 => by
    obtain ⟨h0, h1, h2, h3, h4, h5, h6, h7, h8, h9, h10⟩ := pp_all (W0 := W0) (R := R) n
    have hl : ∀ r, r ≤ 10 → ∀ op ts e t2, pp n r op ts = .ok (e, t2) → t2.length ≤ ts.length := fun r hr op ts e t2 h => pp_shr n r hr op ts e t2 h
    exact ⟨expr_rd n h0 h1, later_rd n h2 h1, or1_rd n h3 (hl 3 (by decide)), and1_rd n h4 (hl 4 (by decide)), not1_rd n h4 h5, cmp_rd n h6, sum_rd n h7 (hl 7 (by decide)), term_rd n h8 (hl 8 (by decide)), unary_rd n h8 h9, post_rd n h10, atom_rd n h0 (hl 0 (by decide))⟩
/-- The reader reads an expression as the grammar says. -/
theorem expr_all {W0 : World} {R : Nat} (op : Nat) (ts : List Tok) (w : World) (hE : Ends ts) (hrd : RdAt W0 R ts op w) (n : Nat) (hn : 13 * ts.length + 13 ≤ n) : Calls Tryz.prog 34 #[rp R] w (Post W0 R op w (pp n 0 op ts) (IsEx w.heap.size)) := (pp_all n).1 op ts w hE hrd (pp_nof n 0 (by decide) op ts (by omega))
end Go.Proofs.YthbgnpkgglbhjaaGreatDoor
