/- A program that came in, opened: params, equations, nodes as they lie in memory, no greater than what was read. -/
import Derived.Test.YthbjagmlcemefaaDoorExOpen
import Derived.Test.YthbjagmlcemefaaDoorTreeMay
import Derived.Test.YthbjagmlcemefaaDoorShowNodes
import Derived.Test.YthbjagmlcemefaaDoorExWeigh
import Derived.Deep.RegionHeld3
namespace Go.Proofs.YthbjagmlcemefaaDoor
open Go.ChangeShapes Go.WideShapes Go.RowKit
open Ex.size Ex.depth Ex.lies Ex.bulk Ex.good
def sumWt {α : Type} (wt : α → Nat) : List α → Nat
  | [] => 0
  | x :: r => wt x + sumWt wt r
theorem sumWt_mem {α : Type} {wt : α → Nat} {l : List α} {x : α} (h : x ∈ l) : wt x ≤ sumWt wt l := by
  induction l with
  | nil => cases h
  | cons y r ih =>
    simp only [sumWt]
    rcases List.mem_cons.1 h with rfl | h
    · omega
    · have := ih h; omega
theorem sumWt_len {α : Type} {wt : α → Nat} {l : List α} (h : ∀ x ∈ l, 1 ≤ wt x) : l.length ≤ sumWt wt l := by
  induction l with
  | nil => simp
  | cons y r ih =>
    have h1 := h y (by simp)
    have h2 := ih fun x hx => h x (by simp [hx])
    simp only [sumWt, List.length_cons]
    omega
theorem build_row {α H : Type} (f : α → List Value) (z : Nat) (wt : α → Nat) (P : α → Prop) (w : World) (b : Nat) : ∀ (els : List (DataW H × List MemPlace)) (o : Nat), (∀ i (h : i < els.length), ∃ x : α, (∀ j, j < z → w.cell? ⟨b, o + i * z + j, none⟩ = (f x)[j]?) ∧ P x ∧ wt x ≤ Rows.uptoBulk els[i].1) →
    ∃ l : List α, l.length = els.length ∧ rowAt f z w b o l ∧ (∀ x ∈ l, P x) ∧ sumWt wt l ≤ Rows.uptoBulkAll (els.map (·.1))
  | [], _, _ => ⟨[], rfl, fun i hi => (by simp at hi), fun x hx => (by cases hx), by simp [sumWt]⟩
  | y :: r, o, h => by
    obtain ⟨x, h1, h2, h3⟩ := h 0 (by simp)
    obtain ⟨l, i1, i2, i3, i4⟩ := build_row f z wt P w b r (o + z) (fun i hi => by
      obtain ⟨x, k1, k2, k3⟩ := h (i + 1) (by simpa using hi)
      exact ⟨x, fun j hj => by have := k1 j hj; rwa [show o + (i + 1) * z + j = o + z + i * z + j by rw [Nat.add_mul]; omega] at this, k2, k3⟩)
    refine ⟨x :: l, by simp [i1], fun i hi j hj => ?_, fun v hv => ?_, ?_⟩
    · cases i with
      | zero => simpa using h1 j hj
      | succ i =>
        have := i2 i (by simpa using hi) j hj
        rw [show o + (i + 1) * z + j = o + z + i * z + j by rw [Nat.add_mul]; omega]
        exact this
    · rcases List.mem_cons.1 hv with rfl | hv
      · exact h2
      · exact i3 v hv
    · simp only [sumWt, List.map_cons, Rows.uptoBulkAll]
      simp only [List.getElem_cons_zero] at h3
      omega
theorem open_row {α H : Type} {enc : TypeId × Value → H} {w : World} {base : Nat} {sp : Nat → Bool} {hd : Bool} (f : α → List Value) (z : Nat) (wt : α → Nat) (P : α → Prop) (hz0 : 0 < z) (hf : ∀ x, ∃ v r, f x = v :: r) (t e : TypeId) (ht : Tryd.prog.underlying t = some (.slice e)) (hz : Tryd.prog.cellsOf e = z) (fuel : Nat)
    (el : ∀ n, n < fuel → ∀ (cs : List Value) (x : DataW H × List MemPlace), DataW.trod enc Tryd.prog w base sp hd n e cs = some x → ∃ y : α, cs = f y ∧ P y ∧ wt y ≤ Rows.uptoBulk x.1)
    (cs : List Value) (x : DataW H × List MemPlace) (h : DataW.trod enc Tryd.prog w base sp hd fuel t cs = some x) :
    ∃ (a : Option Addr) (l : List α) (cap : Nat), cs = [.slice a l.length cap] ∧ rowIn f z w a l ∧ (∀ y ∈ l, P y) ∧ sumWt wt l + 1 ≤ Rows.uptoBulk x.1 := by
  rcases DataW.trod_slice ht h with ⟨rfl, rfl⟩ | ⟨a, len, cap, elems, rest, n', rfl, rfl, rfl, hb, hl, hm, hel, hin, -, -⟩
  · exact ⟨none, [], 0, rfl, fun h => absurd rfl h, fun y hy => (by cases hy), by simp [sumWt, Rows.uptoBulk]⟩
  · rw [hz] at hin
    by_cases h00 : len = 0
    · subst h00
      exact ⟨some a, [], cap, rfl, fun h => absurd rfl h, fun y hy => (by cases hy), by simp [sumWt, Rows.uptoBulk]⟩
    · have each : ∀ i (h : i < elems.length), ∃ cs', w.cells? base (a.add (i * z)) z = some cs' ∧ DataW.trod enc Tryd.prog w base sp hd n' e cs' = some elems[i] := fun i hi => by
        have := hin i (by omega)
        rw [List.getElem?_eq_getElem hi] at this
        obtain ⟨cs', k1, k2⟩ := Option.bind_eq_some_iff.1 this
        exact ⟨cs', k1, k2⟩
      obtain ⟨b, o, spot⟩ := a
      have hfirst : ∃ v, w.cell? ((⟨b, o, spot⟩ : Addr).add (0 * z) |>.add 0) = some v := by
        obtain ⟨cs', k1, k2⟩ := each 0 (by omega)
        obtain ⟨y, k3, _⟩ := el n' (by omega) cs' _ k2
        obtain ⟨_, _, k4⟩ := World.cells?_some k1
        have k5 := k4 0 hz0
        obtain ⟨v, r, hv⟩ := hf y
        rw [k3, hv] at k5
        exact ⟨v, by simpa using k5⟩
      have hspot : spot = none := by
        obtain ⟨v, hv⟩ := hfirst
        simpa [Addr.add] using World.cell?_spot hv
      subst hspot
      have hlt : b < w.heap.size := by
        obtain ⟨v, hv⟩ := hfirst
        rw [addr_add, addr_add] at hv
        exact World.block_lt_of_cell? w ⟨b, _, none⟩ hv
      obtain ⟨l, i1, i2, i3, i4⟩ := build_row f z wt P w b elems o (fun i hi => by
        obtain ⟨cs', k1, k2⟩ := each i hi
        obtain ⟨y, k3, k4, k5⟩ := el n' (by omega) cs' _ k2
        obtain ⟨_, _, k7⟩ := World.cells?_some k1
        refine ⟨y, fun j hj => ?_, k4, k5⟩
        have k8 := k7 j hj
        rw [addr_add, addr_add, k3] at k8
        exact k8)
      refine ⟨some ⟨b, o, none⟩, l, cap, by rw [i1, hel], fun _ => ⟨b, o, rfl, hlt, i2⟩, i3, ?_⟩
      simp only [Rows.uptoBulk]
      omega
theorem open_text {H : Type} {enc : TypeId × Value → H} {w : World} {base : Nat} {sp : Nat → Bool} {hd : Bool} (n : Nat) (cs : List Value) (x : DataW H × List MemPlace) (h : DataW.trod enc Tryd.prog w base sp hd n 9 cs = some x) : ∃ y : ByteArray, cs = textOf y ∧ True ∧ y.size + 1 ≤ Rows.uptoBulk x.1 := by
  obtain ⟨s, rfl, rfl, _⟩ := DataW.trod_string Tryd.underlying9 h
  refine ⟨s, rfl, trivial, ?_⟩
  simp only [Rows.uptoBulk, size_bytes]
  omega
def pmWt (p : Pm) : Nat := p.nm.size + 1
set_option maxRecDepth 100000 in
theorem open_pm {H : Type} {enc : TypeId × Value → H} {w : World} {base : Nat} {sp : Nat → Bool} {hd : Bool} (fuel : Nat) (cs : List Value) (x : DataW H × List MemPlace) (h : DataW.trod enc Tryd.prog w base sp hd fuel 94 cs = some x) : ∃ y : Pm, cs = y.cells ∧ True ∧ pmWt y ≤ Rows.uptoBulk x.1 := by
  obtain ⟨xs, n, rfl, rfl, hlen, hxl, hf⟩ := DataW.trod_struct Tryd.underlying94 h
  have qP : Tryd.prog.cellsOf 94 = 7 := by kernel_rfl
  rw [qP] at hlen
  have q9 : Tryd.prog.cellsOf 9 = 1 := by kernel_rfl
  have q5 : Tryd.prog.cellsOf 5 = 1 := by kernel_rfl
  have q3 : Tryd.prog.cellsOf 3 = 1 := by kernel_rfl
  have q4 : Tryd.prog.cellsOf 4 = 1 := by kernel_rfl
  have q2 : Tryd.prog.cellsOf 2 = 1 := by kernel_rfl
  match cs, hlen with
  | [v0, v1, v2, v3, v4, v5, v6], _ =>
  match xs, hxl with
  | [y0, y1, y2, y3, y4, y5, y6], _ =>
  have h0 : DataW.trod enc Tryd.prog w base sp hd n 9 [v0] = some y0 := by have := hf 0 _ rfl; simpa [q9] using this
  have h1 : DataW.trod enc Tryd.prog w base sp hd n 5 [v1] = some y1 := by have := hf 1 _ rfl; simpa [q5] using this
  have h2 : DataW.trod enc Tryd.prog w base sp hd n 3 [v2] = some y2 := by have := hf 2 _ rfl; simpa [q3] using this
  have h3 : DataW.trod enc Tryd.prog w base sp hd n 4 [v3] = some y3 := by have := hf 3 _ rfl; simpa [q4] using this
  have h4 : DataW.trod enc Tryd.prog w base sp hd n 2 [v4] = some y4 := by have := hf 4 _ rfl; simpa [q2] using this
  have h5 : DataW.trod enc Tryd.prog w base sp hd n 2 [v5] = some y5 := by have := hf 5 _ rfl; simpa [q2] using this
  have h6 : DataW.trod enc Tryd.prog w base sp hd n 2 [v6] = some y6 := by have := hf 6 _ rfl; simpa [q2] using this
  obtain ⟨s0, e0, rfl, _⟩ := DataW.trod_string Tryd.underlying9 h0
  obtain ⟨s1, e1, rfl, _⟩ := DataW.trod_int Tryd.underlying5 h1
  obtain ⟨s2, e2, rfl, _⟩ := DataW.trod_int Tryd.underlying3 h2
  obtain ⟨s3, e3, rfl⟩ := DataW.trod_bool Tryd.underlying4 h3
  obtain ⟨s4, e4, rfl, _⟩ := DataW.trod_int Tryd.underlying2 h4
  obtain ⟨s5, e5, rfl, _⟩ := DataW.trod_int Tryd.underlying2 h5
  obtain ⟨s6, e6, rfl, _⟩ := DataW.trod_int Tryd.underlying2 h6
  simp only [List.cons.injEq, and_true] at e0 e1 e2 e3 e4 e5 e6
  subst e0 e1 e2 e3 e4 e5 e6
  refine ⟨⟨s0, s1, s2, s3, s4, s5, s6⟩, rfl, trivial, ?_⟩
  simp only [pmWt, List.map_cons, List.map_nil, Rows.uptoBulk, Rows.uptoBulkAll, size_bytes]
  omega
def eqWt (q : Eqn) : Nat := sumWt (fun s : ByteArray => s.size + 1) q.ns + q.e.bulk + 1
set_option maxRecDepth 100000 in
theorem open_eqn {H : Type} {enc : TypeId × Value → H} {w : World} {base : Nat} {sp : Nat → Bool} {hd : Bool} (fuel : Nat) (cs : List Value) (x : DataW H × List MemPlace) (h : DataW.trod enc Tryd.prog w base sp hd fuel 36 cs = some x) : ∃ y : Eqn, cs = y.cells ∧ (y.lies w ∧ y.e.good) ∧ eqWt y ≤ Rows.uptoBulk x.1 := by
  obtain ⟨xs, n, rfl, rfl, hlen, hxl, hf⟩ := DataW.trod_struct Tryd.underlying36 h
  have qP : Tryd.prog.cellsOf 36 = 8 := by kernel_rfl
  rw [qP] at hlen
  have qs : Tryd.prog.cellsOf 30 = 1 := by kernel_rfl
  have q3 : Tryd.prog.cellsOf 3 = 1 := by kernel_rfl
  have q9 : Tryd.prog.cellsOf 9 = 1 := by kernel_rfl
  match cs, hlen with
  | [v0, v1, v2, v3, v4, v5, v6, v7], _ =>
  match xs, hxl with
  | [y0, y1, y2], _ =>
  have h0 : DataW.trod enc Tryd.prog w base sp hd n 30 [v0] = some y0 := by have := hf 0 _ rfl; simpa [qs] using this
  have h1 : DataW.trod enc Tryd.prog w base sp hd n 3 [v1] = some y1 := by have := hf 1 _ rfl; simpa [q3] using this
  have h2 : DataW.trod enc Tryd.prog w base sp hd n 33 [v2, v3, v4, v5, v6, v7] = some y2 := by have := hf 2 _ rfl; simpa [Tryd.exprCells] using this
  obtain ⟨a, l, cap, e0, r1, r2, r3⟩ := open_row textOf 1 (fun s : ByteArray => s.size + 1) (fun _ => True) (by decide) (fun x => ⟨_, _, rfl⟩) 30 9 Tryd.underlying30 q9 n (fun m _ cs x h => open_text m cs x h) _ _ h0
  obtain ⟨s1, e1, rfl, _⟩ := DataW.trod_int Tryd.underlying3 h1
  obtain ⟨e, e2, g1, g2, g3⟩ := open_ex n _ _ h2
  simp only [List.cons.injEq, and_true] at e0 e1
  subst e0 e1
  refine ⟨⟨a, cap, l, s1, e⟩, by simp only [Eqn.cells]; rw [← e2], ⟨⟨r1, g1⟩, g2⟩, ?_⟩
  simp only [eqWt, List.map_cons, List.map_nil, Rows.uptoBulk, Rows.uptoBulkAll]
  omega
def ndWt (n : Nd) : Nat := n.nm.size + 1 + sumWt pmWt n.ins + sumWt pmWt n.outs + sumWt pmWt n.vars + sumWt eqWt n.eqs
set_option maxRecDepth 100000 in
theorem open_nd {H : Type} {enc : TypeId × Value → H} {w : World} {base : Nat} {sp : Nat → Bool} {hd : Bool} (fuel : Nat) (cs : List Value) (x : DataW H × List MemPlace) (h : DataW.trod enc Tryd.prog w base sp hd fuel 29 cs = some x) : ∃ y : Nd, cs = y.cells ∧ (y.lies w ∧ ∀ q ∈ y.eqs, q.e.good) ∧ ndWt y ≤ Rows.uptoBulk x.1 := by
  obtain ⟨xs, n, rfl, rfl, hlen, hxl, hf⟩ := DataW.trod_struct Tryd.underlying29 h
  have qP : Tryd.prog.cellsOf 29 = 7 := by kernel_rfl
  rw [qP] at hlen
  have q4 : Tryd.prog.cellsOf 4 = 1 := by kernel_rfl
  have q9 : Tryd.prog.cellsOf 9 = 1 := by kernel_rfl
  have q3 : Tryd.prog.cellsOf 3 = 1 := by kernel_rfl
  have qp : Tryd.prog.cellsOf 26 = 1 := by kernel_rfl
  have qq : Tryd.prog.cellsOf 27 = 1 := by kernel_rfl
  have qpe : Tryd.prog.cellsOf 94 = 7 := by kernel_rfl
  have qqe : Tryd.prog.cellsOf 36 = 8 := by kernel_rfl
  match cs, hlen with
  | [v0, v1, v2, v3, v4, v5, v6], _ =>
  match xs, hxl with
  | [y0, y1, y2, y3, y4, y5, y6], _ =>
  have h0 : DataW.trod enc Tryd.prog w base sp hd n 4 [v0] = some y0 := by have := hf 0 _ rfl; simpa [q4] using this
  have h1 : DataW.trod enc Tryd.prog w base sp hd n 9 [v1] = some y1 := by have := hf 1 _ rfl; simpa [q9] using this
  have h2 : DataW.trod enc Tryd.prog w base sp hd n 3 [v2] = some y2 := by have := hf 2 _ rfl; simpa [q3] using this
  have h3 : DataW.trod enc Tryd.prog w base sp hd n 26 [v3] = some y3 := by have := hf 3 _ rfl; simpa [qp] using this
  have h4 : DataW.trod enc Tryd.prog w base sp hd n 26 [v4] = some y4 := by have := hf 4 _ rfl; simpa [qp] using this
  have h5 : DataW.trod enc Tryd.prog w base sp hd n 26 [v5] = some y5 := by have := hf 5 _ rfl; simpa [qp] using this
  have h6 : DataW.trod enc Tryd.prog w base sp hd n 27 [v6] = some y6 := by have := hf 6 _ rfl; simpa [qq] using this
  obtain ⟨s0, e0, rfl⟩ := DataW.trod_bool Tryd.underlying4 h0
  obtain ⟨s1, e1, rfl, _⟩ := DataW.trod_string Tryd.underlying9 h1
  obtain ⟨s2, e2, rfl, _⟩ := DataW.trod_int Tryd.underlying3 h2
  obtain ⟨a3, l3, c3, e3, r3, -, t3⟩ := open_row Pm.cells 7 pmWt (fun _ => True) (by decide) (fun x => ⟨_, _, rfl⟩) 26 94 Tryd.underlying26 qpe n (fun m _ cs x h => open_pm m cs x h) _ _ h3
  obtain ⟨a4, l4, c4, e4, r4, -, t4⟩ := open_row Pm.cells 7 pmWt (fun _ => True) (by decide) (fun x => ⟨_, _, rfl⟩) 26 94 Tryd.underlying26 qpe n (fun m _ cs x h => open_pm m cs x h) _ _ h4
  obtain ⟨a5, l5, c5, e5, r5, -, t5⟩ := open_row Pm.cells 7 pmWt (fun _ => True) (by decide) (fun x => ⟨_, _, rfl⟩) 26 94 Tryd.underlying26 qpe n (fun m _ cs x h => open_pm m cs x h) _ _ h5
  obtain ⟨a6, l6, c6, e6, r6, p6, t6⟩ := open_row Eqn.cells 8 eqWt (fun y => y.lies w ∧ y.e.good) (by decide) (fun x => ⟨_, _, rfl⟩) 27 36 Tryd.underlying27 qqe n (fun m _ cs x h => open_eqn m cs x h) _ _ h6
  simp only [List.cons.injEq, and_true] at e0 e1 e2 e3 e4 e5 e6
  subst e0 e1 e2 e3 e4 e5 e6
  refine ⟨⟨s0, s1, s2, a3, c3, l3, a4, c4, l4, a5, c5, l5, a6, c6, l6⟩, rfl, ⟨⟨r3, r4, r5, r6, fun q hq => (p6 q hq).1⟩, fun q hq => (p6 q hq).2⟩, ?_⟩
  simp only [ndWt, List.map_cons, List.map_nil, Rows.uptoBulk, Rows.uptoBulkAll, size_bytes]
  omega
theorem eqs_sizes (l : List Eqn) : eqSizes l ≤ sumWt eqWt l := by
  induction l with
  | nil => simp [eqSizes]
  | cons q r ih => have := size_bulk q.e; simp only [eqSizes, sumWt, eqWt] at *; omega
theorem nds_sizes (l : List Nd) : ndSizes l ≤ sumWt ndWt l := by
  induction l with
  | nil => simp [ndSizes]
  | cons n r ih => have := eqs_sizes n.eqs; simp only [ndSizes, sumWt, ndWt] at *; omega
theorem nd_good {n : Nd} (h : ndWt n ≤ 1048576) (hg : ∀ q ∈ n.eqs, q.e.good) : n.good := by
  rw [ndWt] at h
  have pl : ∀ l : List Pm, l.length ≤ sumWt pmWt l := fun l => sumWt_len fun x _ => by simp [pmWt]
  have ql : n.eqs.length ≤ sumWt eqWt n.eqs := sumWt_len fun x _ => by simp [eqWt]
  have p1 := pl n.ins
  have p2 := pl n.outs
  have p3 := pl n.vars
  have pw : ∀ (l : List Pm) (p : Pm), p ∈ l → p.nm.size + 1 ≤ sumWt pmWt l := fun l p hp => sumWt_mem (wt := pmWt) hp
  refine ⟨by omega, by omega, by omega, by omega, by omega, fun p hp => by have := pw _ p hp; omega, fun p hp => by have := pw _ p hp; omega, fun p hp => by have := pw _ p hp; omega, fun q hq => ?_⟩
  have h1 := sumWt_mem (wt := eqWt) hq
  have h2 : eqWt q ≤ 1048576 := by omega
  rw [eqWt] at h2
  refine ⟨fun s hs => ?_, ?_, hg q hq, by omega⟩
  · have := sumWt_mem (wt := fun s : ByteArray => s.size + 1) hs
    omega
  · have := sumWt_len (wt := fun s : ByteArray => s.size + 1) (l := q.ns) fun x _ => by simp
    omega
set_option maxRecDepth 100000 in
theorem open_prog {H : Type} {enc : TypeId × Value → H} {W : World} {base b0 : Nat} {sp : Nat → Bool} {hd : Bool} {v : Value} {d : DataW H} {p : List MemPlace} (hv : Value.okWide Tryd.prog W .any b0 25 v) (h : DataW.Trod enc Tryd.prog W base sp hd 25 v d p) (hbk : Rows.uptoBulk d ≤ 1048576) :
    ∃ (a : Option Addr) (l : List Nd) (cap : Nat), v = .agg #[.slice a l.length cap] ∧ Lie W a l ∧ Goods l := by
  obtain ⟨cs, rfl, hsz⟩ := okWide_struct Tryd.underlying25 hv
  obtain ⟨fuel, hf0⟩ := h
  obtain ⟨xs, n, rfl, hx, hlen, hxl, hf⟩ := DataW.trod_struct Tryd.underlying25 hf0
  have qP : Tryd.prog.cellsOf 25 = 1 := by kernel_rfl
  have qn : Tryd.prog.cellsOf 23 = 1 := by kernel_rfl
  have qe : Tryd.prog.cellsOf 29 = 7 := by kernel_rfl
  rw [qP] at hlen
  have hcs : (Value.agg cs).cells.toList = cs.toList := by simp [Value.cells]
  rw [hcs] at hf hlen
  match hc : cs.toList, hlen with
  | [v0], _ =>
  match xs, hxl with
  | [y0], _ =>
  rw [hc] at hf
  have h0 : DataW.trod enc Tryd.prog W base sp hd n 23 [v0] = some y0 := by have := hf 0 _ rfl; simpa [qn] using this
  obtain ⟨a, l, cap, e0, r1, r2, r3⟩ := open_row Nd.cells 7 ndWt (fun y => y.lies W ∧ ∀ q ∈ y.eqs, q.e.good) (by decide) (fun x => ⟨_, _, rfl⟩) 23 29 Tryd.underlying23 qe n (fun m _ cs x h => open_nd m cs x h) _ _ h0
  simp only [List.cons.injEq, and_true] at e0
  subst e0
  have hd : Rows.uptoBulk d = Rows.uptoBulk y0.1 + 1 := by
    have := congrArg Prod.fst hx
    simp only at this
    rw [this]
    simp [Rows.uptoBulk, Rows.uptoBulkAll]
  have hsum : sumWt ndWt l ≤ 1048576 := by omega
  refine ⟨a, l, cap, ?_, ⟨r1, fun n hn => (r2 n hn).1⟩, fun n hn => nd_good (Nat.le_trans (sumWt_mem hn) hsum) (r2 n hn).2, ?_, Nat.le_trans (nds_sizes l) hsum⟩
  · congr 1
    apply Array.toList_inj.1
    rw [hc]
  · exact Nat.le_trans (sumWt_len fun x _ => by rw [ndWt]; omega) hsum
end Go.Proofs.YthbjagmlcemefaaDoor
/- A program that came in, opened, with what its numbers and rows are. -/
namespace Go.Proofs.YthbjagmlcemefaaDoor
open Go.ChangeShapes Go.WideShapes Go.RowKit
open Ex.size Ex.depth Ex.lies Ex.bulk Ex.good
set_option maxRecDepth 100000 in
theorem opens_pm {H : Type} {enc : TypeId × Value → H} {w : World} {base : Nat} {sp : Nat → Bool} {hd : Bool} (fuel : Nat) (cs : List Value) (x : DataW H × List MemPlace) (h : DataW.trod enc Tryd.prog w base sp hd fuel 94 cs = some x) : ∃ y : Pm, cs = y.cells ∧ y.wf ∧ pmWt y ≤ Rows.uptoBulk x.1 := by
  obtain ⟨xs, n, rfl, rfl, hlen, hxl, hf⟩ := DataW.trod_struct Tryd.underlying94 h
  have qP : Tryd.prog.cellsOf 94 = 7 := by kernel_rfl
  rw [qP] at hlen
  have q9 : Tryd.prog.cellsOf 9 = 1 := by kernel_rfl
  have q5 : Tryd.prog.cellsOf 5 = 1 := by kernel_rfl
  have q3 : Tryd.prog.cellsOf 3 = 1 := by kernel_rfl
  have q4 : Tryd.prog.cellsOf 4 = 1 := by kernel_rfl
  have q2 : Tryd.prog.cellsOf 2 = 1 := by kernel_rfl
  match cs, hlen with
  | [v0, v1, v2, v3, v4, v5, v6], _ =>
  match xs, hxl with
  | [y0, y1, y2, y3, y4, y5, y6], _ =>
  have h0 : DataW.trod enc Tryd.prog w base sp hd n 9 [v0] = some y0 := by have := hf 0 _ rfl; simpa [q9] using this
  have h1 : DataW.trod enc Tryd.prog w base sp hd n 5 [v1] = some y1 := by have := hf 1 _ rfl; simpa [q5] using this
  have h2 : DataW.trod enc Tryd.prog w base sp hd n 3 [v2] = some y2 := by have := hf 2 _ rfl; simpa [q3] using this
  have h3 : DataW.trod enc Tryd.prog w base sp hd n 4 [v3] = some y3 := by have := hf 3 _ rfl; simpa [q4] using this
  have h4 : DataW.trod enc Tryd.prog w base sp hd n 2 [v4] = some y4 := by have := hf 4 _ rfl; simpa [q2] using this
  have h5 : DataW.trod enc Tryd.prog w base sp hd n 2 [v5] = some y5 := by have := hf 5 _ rfl; simpa [q2] using this
  have h6 : DataW.trod enc Tryd.prog w base sp hd n 2 [v6] = some y6 := by have := hf 6 _ rfl; simpa [q2] using this
  obtain ⟨s0, e0, rfl, _⟩ := DataW.trod_string Tryd.underlying9 h0
  obtain ⟨s1, e1, rfl, _⟩ := DataW.trod_int Tryd.underlying5 h1
  obtain ⟨s2, e2, rfl, _⟩ := DataW.trod_int Tryd.underlying3 h2
  obtain ⟨s3, e3, rfl⟩ := DataW.trod_bool Tryd.underlying4 h3
  obtain ⟨s4, e4, rfl, w4⟩ := DataW.trod_int Tryd.underlying2 h4
  obtain ⟨s5, e5, rfl, w5⟩ := DataW.trod_int Tryd.underlying2 h5
  obtain ⟨s6, e6, rfl, w6⟩ := DataW.trod_int Tryd.underlying2 h6
  simp only [List.cons.injEq, and_true] at e0 e1 e2 e3 e4 e5 e6
  subst e0 e1 e2 e3 e4 e5 e6
  refine ⟨⟨s0, s1, s2, s3, s4, s5, s6⟩, rfl, ⟨w4, w5, w6⟩, ?_⟩
  simp only [pmWt, List.map_cons, List.map_nil, Rows.uptoBulk, Rows.uptoBulkAll, size_bytes]
  omega
set_option maxRecDepth 100000 in
theorem opens_eqn {H : Type} {enc : TypeId × Value → H} {w : World} {base : Nat} {sp : Nat → Bool} {hd : Bool} (fuel : Nat) (cs : List Value) (x : DataW H × List MemPlace) (h : DataW.trod enc Tryd.prog w base sp hd fuel 36 cs = some x) : ∃ y : Eqn, cs = y.cells ∧ ((y.lies w ∧ y.e.good) ∧ y.ns.length ≤ y.nc) ∧ eqWt y ≤ Rows.uptoBulk x.1 := by
  obtain ⟨xs, n, rfl, rfl, hlen, hxl, hf⟩ := DataW.trod_struct Tryd.underlying36 h
  have qP : Tryd.prog.cellsOf 36 = 8 := by kernel_rfl
  rw [qP] at hlen
  have qs : Tryd.prog.cellsOf 30 = 1 := by kernel_rfl
  have q3 : Tryd.prog.cellsOf 3 = 1 := by kernel_rfl
  have q9 : Tryd.prog.cellsOf 9 = 1 := by kernel_rfl
  match cs, hlen with
  | [v0, v1, v2, v3, v4, v5, v6, v7], _ =>
  match xs, hxl with
  | [y0, y1, y2], _ =>
  have h0 : DataW.trod enc Tryd.prog w base sp hd n 30 [v0] = some y0 := by have := hf 0 _ rfl; simpa [qs] using this
  have h1 : DataW.trod enc Tryd.prog w base sp hd n 3 [v1] = some y1 := by have := hf 1 _ rfl; simpa [q3] using this
  have h2 : DataW.trod enc Tryd.prog w base sp hd n 33 [v2, v3, v4, v5, v6, v7] = some y2 := by have := hf 2 _ rfl; simpa [Tryd.exprCells] using this
  obtain ⟨a, l, cap, e0, r1, r2, r3⟩ := open_row textOf 1 (fun s : ByteArray => s.size + 1) (fun _ => True) (by decide) (fun x => ⟨_, _, rfl⟩) 30 9 Tryd.underlying30 q9 n (fun m _ cs x h => open_text m cs x h) _ _ h0
  obtain ⟨s1, e1, rfl, _⟩ := DataW.trod_int Tryd.underlying3 h1
  obtain ⟨e, e2, g1, g2, g3⟩ := open_ex n _ _ h2
  have hcap : l.length ≤ cap := by
    rcases DataW.trod_slice Tryd.underlying30 h0 with ⟨k1, -⟩ | ⟨a', len, cap', elems, rest, n', -, k1, -, -, kl, -⟩
    · rw [e0] at k1
      simp only [List.cons.injEq, Value.slice.injEq, and_true] at k1
      omega
    · rw [e0] at k1
      simp only [List.cons.injEq, Value.slice.injEq, and_true] at k1
      omega
  simp only [List.cons.injEq, and_true] at e0 e1
  subst e0 e1
  refine ⟨⟨a, cap, l, s1, e⟩, by simp only [Eqn.cells]; rw [← e2], ⟨⟨⟨r1, g1⟩, g2⟩, hcap⟩, ?_⟩
  simp only [eqWt, List.map_cons, List.map_nil, Rows.uptoBulk, Rows.uptoBulkAll]
  omega
set_option maxRecDepth 100000 in
theorem opens_nd {H : Type} {enc : TypeId × Value → H} {w : World} {base : Nat} {sp : Nat → Bool} {hd : Bool} (fuel : Nat) (cs : List Value) (x : DataW H × List MemPlace) (h : DataW.trod enc Tryd.prog w base sp hd fuel 29 cs = some x) : ∃ y : Nd, cs = y.cells ∧ ((y.lies w ∧ ∀ q ∈ y.eqs, q.e.good) ∧ y.nums) ∧ ndWt y ≤ Rows.uptoBulk x.1 := by
  obtain ⟨xs, n, rfl, rfl, hlen, hxl, hf⟩ := DataW.trod_struct Tryd.underlying29 h
  have qP : Tryd.prog.cellsOf 29 = 7 := by kernel_rfl
  rw [qP] at hlen
  have q4 : Tryd.prog.cellsOf 4 = 1 := by kernel_rfl
  have q9 : Tryd.prog.cellsOf 9 = 1 := by kernel_rfl
  have q3 : Tryd.prog.cellsOf 3 = 1 := by kernel_rfl
  have qp : Tryd.prog.cellsOf 26 = 1 := by kernel_rfl
  have qq : Tryd.prog.cellsOf 27 = 1 := by kernel_rfl
  have qpe : Tryd.prog.cellsOf 94 = 7 := by kernel_rfl
  have qqe : Tryd.prog.cellsOf 36 = 8 := by kernel_rfl
  match cs, hlen with
  | [v0, v1, v2, v3, v4, v5, v6], _ =>
  match xs, hxl with
  | [y0, y1, y2, y3, y4, y5, y6], _ =>
  have h0 : DataW.trod enc Tryd.prog w base sp hd n 4 [v0] = some y0 := by have := hf 0 _ rfl; simpa [q4] using this
  have h1 : DataW.trod enc Tryd.prog w base sp hd n 9 [v1] = some y1 := by have := hf 1 _ rfl; simpa [q9] using this
  have h2 : DataW.trod enc Tryd.prog w base sp hd n 3 [v2] = some y2 := by have := hf 2 _ rfl; simpa [q3] using this
  have h3 : DataW.trod enc Tryd.prog w base sp hd n 26 [v3] = some y3 := by have := hf 3 _ rfl; simpa [qp] using this
  have h4 : DataW.trod enc Tryd.prog w base sp hd n 26 [v4] = some y4 := by have := hf 4 _ rfl; simpa [qp] using this
  have h5 : DataW.trod enc Tryd.prog w base sp hd n 26 [v5] = some y5 := by have := hf 5 _ rfl; simpa [qp] using this
  have h6 : DataW.trod enc Tryd.prog w base sp hd n 27 [v6] = some y6 := by have := hf 6 _ rfl; simpa [qq] using this
  obtain ⟨s0, e0, rfl⟩ := DataW.trod_bool Tryd.underlying4 h0
  obtain ⟨s1, e1, rfl, _⟩ := DataW.trod_string Tryd.underlying9 h1
  obtain ⟨s2, e2, rfl, _⟩ := DataW.trod_int Tryd.underlying3 h2
  obtain ⟨a3, l3, c3, e3, r3, p3, t3⟩ := open_row Pm.cells 7 pmWt Pm.wf (by decide) (fun x => ⟨_, _, rfl⟩) 26 94 Tryd.underlying26 qpe n (fun m _ cs x h => opens_pm m cs x h) _ _ h3
  obtain ⟨a4, l4, c4, e4, r4, p4, t4⟩ := open_row Pm.cells 7 pmWt Pm.wf (by decide) (fun x => ⟨_, _, rfl⟩) 26 94 Tryd.underlying26 qpe n (fun m _ cs x h => opens_pm m cs x h) _ _ h4
  obtain ⟨a5, l5, c5, e5, r5, p5, t5⟩ := open_row Pm.cells 7 pmWt Pm.wf (by decide) (fun x => ⟨_, _, rfl⟩) 26 94 Tryd.underlying26 qpe n (fun m _ cs x h => opens_pm m cs x h) _ _ h5
  obtain ⟨a6, l6, c6, e6, r6, p6, t6⟩ := open_row Eqn.cells 8 eqWt (fun y => (y.lies w ∧ y.e.good) ∧ y.ns.length ≤ y.nc) (by decide) (fun x => ⟨_, _, rfl⟩) 27 36 Tryd.underlying27 qqe n (fun m _ cs x h => opens_eqn m cs x h) _ _ h6
  simp only [List.cons.injEq, and_true] at e0 e1 e2 e3 e4 e5 e6
  subst e0 e1 e2 e3 e4 e5 e6
  refine ⟨⟨s0, s1, s2, a3, c3, l3, a4, c4, l4, a5, c5, l5, a6, c6, l6⟩, rfl, ⟨⟨⟨r3, r4, r5, r6, fun q hq => (p6 q hq).1.1⟩, fun q hq => (p6 q hq).1.2⟩, p3, p4, p5, fun q hq => (p6 q hq).2⟩, ?_⟩
  simp only [ndWt, List.map_cons, List.map_nil, Rows.uptoBulk, Rows.uptoBulkAll, size_bytes]
  omega
set_option maxRecDepth 100000 in
theorem opens_prog {H : Type} {enc : TypeId × Value → H} {W : World} {base b0 : Nat} {sp : Nat → Bool} {hd : Bool} {v : Value} {d : DataW H} {p : List MemPlace} (hv : Value.okWide Tryd.prog W .any b0 25 v) (h : DataW.Trod enc Tryd.prog W base sp hd 25 v d p) (hbk : Rows.uptoBulk d ≤ 1048576) :
    ∃ (a : Option Addr) (l : List Nd) (cap : Nat), v = .agg #[.slice a l.length cap] ∧ Lie W a l ∧ Goods l ∧ ∀ n ∈ l, n.nums := by
  obtain ⟨cs, rfl, hsz⟩ := okWide_struct Tryd.underlying25 hv
  obtain ⟨fuel, hf0⟩ := h
  obtain ⟨xs, n, rfl, hx, hlen, hxl, hf⟩ := DataW.trod_struct Tryd.underlying25 hf0
  have qP : Tryd.prog.cellsOf 25 = 1 := by kernel_rfl
  have qn : Tryd.prog.cellsOf 23 = 1 := by kernel_rfl
  have qe : Tryd.prog.cellsOf 29 = 7 := by kernel_rfl
  rw [qP] at hlen
  have hcs : (Value.agg cs).cells.toList = cs.toList := by simp [Value.cells]
  rw [hcs] at hf hlen
  match hc : cs.toList, hlen with
  | [v0], _ =>
  match xs, hxl with
  | [y0], _ =>
  rw [hc] at hf
  have h0 : DataW.trod enc Tryd.prog W base sp hd n 23 [v0] = some y0 := by have := hf 0 _ rfl; simpa [qn] using this
  obtain ⟨a, l, cap, e0, r1, r2, r3⟩ := open_row Nd.cells 7 ndWt (fun y => (y.lies W ∧ ∀ q ∈ y.eqs, q.e.good) ∧ y.nums) (by decide) (fun x => ⟨_, _, rfl⟩) 23 29 Tryd.underlying23 qe n (fun m _ cs x h => opens_nd m cs x h) _ _ h0
  simp only [List.cons.injEq, and_true] at e0
  subst e0
  have hd : Rows.uptoBulk d = Rows.uptoBulk y0.1 + 1 := by
    have := congrArg Prod.fst hx
    simp only at this
    rw [this]
    simp [Rows.uptoBulk, Rows.uptoBulkAll]
  have hsum : sumWt ndWt l ≤ 1048576 := by omega
  refine ⟨a, l, cap, ?_, ⟨r1, fun n hn => (r2 n hn).1.1⟩, ⟨fun n hn => nd_good (Nat.le_trans (sumWt_mem hn) hsum) (r2 n hn).1.2, ?_, Nat.le_trans (nds_sizes l) hsum⟩, fun n hn => (r2 n hn).2⟩
  · congr 1
    apply Array.toList_inj.1
    rw [hc]
  · exact Nat.le_trans (sumWt_len fun x _ => by rw [ndWt]; omega) hsum
end Go.Proofs.YthbjagmlcemefaaDoor
/- The statements' own look at how much a program is: whatever it answers, it answers, and changes nothing. -/
namespace Go.Proofs.YthbjagmlcemefaaDoor
open Go.RowKit
open Ex.size Ex.depth Ex.lies Ex.bulk Ex.good Ex.shape
attribute [local go_sem] later_size later_cell later_frozen later_setCell later_drew later_drewN later_tape drewN_setCell drewN_alloc drewN_later later_later lt_more lt_more1 lt_more2 lt_more3 lt_more4 lk0_0_1 lk1_0_1 lk2_0_1 lk0_0_2 lk1_0_2 lk2_0_2 lk0_1_2 lk0_0_3 lk1_0_3 lk2_0_3 lk0_1_3 lk0_2_3 lk0_0_4 lk1_0_4 lk2_0_4 lk0_1_4 lk0_2_4 lk0_3_4 lk0_0_5 lk1_0_5 lk2_0_5 lk0_1_5 lk0_2_5 lk0_3_5 lk0_4_5 lk0_0_6 lk1_0_6 lk2_0_6 lk0_1_6 lk0_2_6 lk0_3_6 lk0_4_6 lk0_5_6 lk0_0_7 lk1_0_7 lk2_0_7 lk0_1_7 lk0_2_7 lk0_3_7 lk0_4_7 lk0_5_7 lk0_6_7
def SomeInt (x : Ending) : Prop := ∃ i : Int, x = .returned (.int .i64 i)
set_option maxRecDepth 100000 in
set_option maxHeartbeats 6400000 in
theorem lawParams_calls (l : List Pm) (a : Option Addr) (cap : Nat) (hn : l.length ≤ 1048576) (w : World) (hl : rowIn Pm.cells 7 w a l) :
    Calls Tryd.prog 37 #[.slice a l.length cap] w fun x w' => SomeInt x ∧ w' = w := by
  obtain ⟨n, hN⟩ : ∃ n, n = l.length := ⟨_, rfl⟩
  rw [← hN] at hn ⊢
  have HN : Hid (n = l.length) := hN
  have HL : Hid (rowIn Pm.cells 7 w a l) := hl
  clear hN hl
  go_enter Tryd.func37, Tryd.ntmps37
  go_wp2_with fail
  go_loopw [3, 4] (fun s i wr => ∃ (k : Nat) (x : Int), k ≤ n ∧ i = .int .i64 k ∧ s = .int .i64 x ∧ wr = w) (fun _ i _ => n - (intOf i).toNat)
  case atStart => exact ⟨0, 0, by omega, rfl, rfl, rfl⟩
  case round =>
    obtain ⟨k, x, hk, rfl, rfl, rfl⟩ := hrel
    by_cases hlt : k < n
    · have hkl : k < l.length := by rw [← HN.out]; exact hlt
      obtain ⟨b, o, rfl, hbl, hrow⟩ := HL.out (by intro h; rw [h] at hkl; simp at hkl)
      have c0 : wr.cell? ⟨b, o + k * 7, none⟩ = some (.string l[k].nm) := hrow k hkl 0 (by omega)
      by_cases hx : x ≤ 8192
      · go_wp2_with fail
        all_goals
          (go_roundw
           case rel => exact ⟨k + 1, _, by omega, by go_num, rfl, by first | rfl | trivial⟩
           case measure => simp [intOf]; omega)
      · go_wp2_with fail
        go_ret
        exact ⟨⟨_, rfl⟩, rfl⟩
    · obtain rfl : k = n := by omega
      go_wp2_with fail
      all_goals go_ret
      all_goals exact ⟨⟨_, rfl⟩, rfl⟩
/-- The weight of params, whatever it is. -/
structure ParIs (w : World) (v : Value) : Prop where
  out : ∀ w', Hid (Below w.heap.size w w') → Calls Tryd.prog 37 #[v] w' fun x w'' => SomeInt x ∧ w'' = w'
def SomeBool (x : Ending) : Prop := ∃ q : Bool, x = .returned (.bool q)
set_option maxRecDepth 100000 in
set_option maxHeartbeats 12800000 in
theorem large_calls (l : List Nd) (a : Option Addr) (cap : Nat) (hg : Goods l) (w : World) (hl : Lie w a l) : Calls Tryd.prog 12 #[.agg #[.slice a l.length cap]] w fun x w' => SomeBool x ∧ Below w.heap.size w w' := by
  have HG : Hid (∀ x ∈ l, x.good) := hg.1
  have HL : Hid (Lie w a l) := hl
  obtain ⟨n, hN⟩ : ∃ n, n = l.length := ⟨_, rfl⟩
  have hn : n ≤ 1048576 := by rw [hN]; exact hg.2.1
  have HN : Hid (n = l.length) := hN
  rw [← hN]
  obtain ⟨W0, hW0⟩ : ∃ W0 : World, W0 = w.alloc (.cells #[.slice a n cap] 25) := ⟨_, rfl⟩
  have HB0 : Hid (Below w.heap.size w W0) := by rw [hW0]; exact (Below.refl _ _).alloc (Nat.le_refl _) _
  have HS0 : Hid (W0.heap.size = w.heap.size + 1) := by rw [Hid, hW0]; simp
  have HX0 : Hid (W0.cell? ⟨w.heap.size, 0, none⟩ = some (.slice a n cap)) := by rw [Hid, hW0, World.cell?_alloc_at _ _ _ _ rfl]; rfl
  have HW0 : Hid _ := hW0
  clear hN hg hl hW0
  go_enter Tryd.func12, Tryd.ntmps12
  go_wp2_with fail
  rw [← HW0.out]
  go_loopw [3, 4] (fun s i wr => ∃ (k : Nat) (x : Int), k ≤ n ∧ i = .int .i64 k ∧ s = .int .i64 x ∧ Hid (Below (w.heap.size + 1) W0 wr) ∧ wr.cell? ⟨w.heap.size, 0, none⟩ = some (.slice a n cap)) (fun _ i _ => n - (intOf i).toNat)
  case atStart => exact ⟨0, 0, by omega, rfl, rfl, Below.refl _ _, HX0.out⟩
  case round =>
    obtain ⟨k, x, hk, rfl, rfl, HX, hx0⟩ := hrel
    have HB : Hid (Below w.heap.size w wr) := HB0.out.trans (HX.out.mono (by omega))
    have HSz : Hid (w.heap.size + 1 ≤ wr.heap.size) := by have h1 := HX.out.size; have h2 := HS0.out; rw [Hid]; omega
    by_cases hlt : k < n
    · by_cases hx : x ≤ 8192
      · have hkl : k < l.length := by rw [← HN.out]; exact hlt
        obtain ⟨b, o, rfl, hbl, hrow⟩ := HL.out.1 (by intro h; rw [h] at hkl; simp at hkl)
        have hcr : ∀ j, j < 7 → wr.cell? ⟨b, o + k * 7 + j, none⟩ = l[k].cells[j]? := fun j hj => (HB.out.cell (p := ⟨b, o + k * 7 + j, none⟩) hbl).trans (hrow k hkl j hj)
        have hgk := HG.out _ (List.getElem_mem hkl)
        have hlk := HL.out.2 _ (List.getElem_mem hkl)
        obtain ⟨W1, hW1⟩ : ∃ W1 : World, W1 = wr.alloc (.cells l[k].cells.toArray 29) := ⟨_, rfl⟩
        have hbW1 : Below wr.heap.size wr W1 := by rw [hW1]; exact (Below.refl _ _).alloc (Nat.le_refl _) _
        have hcW1 : ∀ j, j < 7 → W1.cell? ⟨wr.heap.size, j, none⟩ = l[k].cells[j]? := fun j hj => by rw [hW1]; exact cell_alloc_eq rfl
        have HQs : Hid (∀ x ∈ l[k].eqs, x.good) := hgk.2.2.2.2.2.2.2.2
        have HQL : Hid (rowIn Eqn.cells 8 w l[k].qa l[k].eqs ∧ ∀ q ∈ l[k].eqs, q.lies w) := hlk.2.2.2
        have P1 : ParIs w (.slice l[k].ia l[k].ins.length l[k].ic) := ⟨fun w' h => lawParams_calls _ _ _ hgk.2.1 w' (rowIn_below hlk.1 h)⟩
        have P2 : ParIs w (.slice l[k].oa l[k].outs.length l[k].oc) := ⟨fun w' h => lawParams_calls _ _ _ hgk.2.2.1 w' (rowIn_below hlk.2.1 h)⟩
        have P3 : ParIs w (.slice l[k].va l[k].vars.length l[k].vc) := ⟨fun w' h => lawParams_calls _ _ _ hgk.2.2.2.1 w' (rowIn_below hlk.2.2.1 h)⟩
        have hqn : l[k].eqs.length ≤ 1048576 := hgk.2.2.2.2.1
        have hnm : l[k].nm.size ≤ 1048576 := hgk.1
        clear hlk hgk
        generalize l[k] = y at *
        obtain ⟨fl, nm, pl, ia, ic, ins, oa, oc, outs, va, vc, vars, qa, qc, eqs⟩ := y
        have c0 : wr.cell? ⟨b, o + k * 7, none⟩ = some (.bool fl) := hcr 0 (by omega)
        have c1 : wr.cell? ⟨b, o + k * 7 + 1, none⟩ = some (.string nm) := hcr 1 (by omega)
        have c2 : wr.cell? ⟨b, o + k * 7 + 2, none⟩ = some (.int .i64 pl) := hcr 2 (by omega)
        have c3 : wr.cell? ⟨b, o + k * 7 + 3, none⟩ = some (.slice ia ins.length ic) := hcr 3 (by omega)
        have c4 : wr.cell? ⟨b, o + k * 7 + 4, none⟩ = some (.slice oa outs.length oc) := hcr 4 (by omega)
        have c5 : wr.cell? ⟨b, o + k * 7 + 5, none⟩ = some (.slice va vars.length vc) := hcr 5 (by omega)
        have c6 : wr.cell? ⟨b, o + k * 7 + 6, none⟩ = some (.slice qa eqs.length qc) := hcr 6 (by omega)
        have e1 : W1.cell? ⟨wr.heap.size, 1, none⟩ = some (.string nm) := hcW1 1 (by omega)
        have e3 : W1.cell? ⟨wr.heap.size, 3, none⟩ = some (.slice ia ins.length ic) := hcW1 3 (by omega)
        have e4 : W1.cell? ⟨wr.heap.size, 4, none⟩ = some (.slice oa outs.length oc) := hcW1 4 (by omega)
        have e5 : W1.cell? ⟨wr.heap.size, 5, none⟩ = some (.slice va vars.length vc) := hcW1 5 (by omega)
        have e6 : W1.cell? ⟨wr.heap.size, 6, none⟩ = some (.slice qa eqs.length qc) := hcW1 6 (by omega)
        have v0 : W1.cell? ⟨w.heap.size, 0, none⟩ = some (.slice (some ⟨b, o, none⟩) n cap) := (hbW1.cell (p := ⟨w.heap.size, 0, none⟩) HSz.out).trans hx0
        simp only at HQs HQL hqn hnm
        obtain ⟨m, hM⟩ : ∃ m, m = eqs.length := ⟨_, rfl⟩
        have HM : Hid (m = eqs.length) := hM
        simp only [Nd.cells, List.toArray] at hW1
        simp only [← hM] at hW1 c6 e6 hqn
        have HW1 : Hid _ := hW1
        have HX1 : Hid (Below (w.heap.size + 1) W0 W1) := HX.out.trans (hbW1.mono HSz.out)
        have HB1 : Hid (Below w.heap.size w W1.drew) := Below.drew (HB.out.trans (hbW1.mono HB.out.size))
        clear hcr hrow hM hW1 hbW1 hcW1
        go_wp2_with fail
        rw [← HW1.out]
        generalize hB1 : wr.heap.size = B1 at *
        clear c0 c1 c2 c3 c4 c5 c6 HW1
        go_region_held3 (fun w' => Hid (Below w.heap.size w w') ∧ w'.cell? ⟨B1, 1, none⟩ = some (.string nm) ∧ w'.cell? ⟨B1, 3, none⟩ = some (.slice ia ins.length ic) ∧ w'.cell? ⟨B1, 4, none⟩ = some (.slice oa outs.length oc) ∧ w'.cell? ⟨B1, 5, none⟩ = some (.slice va vars.length vc)) (go_simp) (first
          | (go_at_call 37; refine (ParIs.out (by assumption) _ (by assumption)).mono ?_; rintro r w5 ⟨⟨i5, rfl⟩, rfl⟩))
        have HX1d : Hid (Below (w.heap.size + 1) W0 W1.drew) := Below.drew HX1.out
        have v0d : W1.drew.cell? ⟨w.heap.size, 0, none⟩ = some (.slice (some ⟨b, o, none⟩) n cap) := v0
        have e6d : W1.drew.cell? ⟨B1, 6, none⟩ = some (.slice qa m qc) := e6
        clear e1 e3 e4 e5 P1 P2 P3
        go_wp2_with fail
        go_loopw [3, 6] (fun s i wq => ∃ (j : Nat) (x : Int), j ≤ m ∧ i = .int .i64 j ∧ s = .int .i64 x ∧ Hid (Below (w.heap.size + 1) W0 wq) ∧ wq.cell? ⟨w.heap.size, 0, none⟩ = some (.slice (some ⟨b, o, none⟩) n cap) ∧ wq.cell? ⟨B1, 6, none⟩ = some (.slice qa m qc)) (fun _ i _ => m - (intOf i).toNat)
        case atStart => exact ⟨0, _, by omega, rfl, rfl, HX1d, v0d, e6d⟩
        case round =>
          obtain ⟨j, x2, hj, rfl, rfl, HXq, hv0, he6⟩ := hrel
          have HBq : Hid (Below w.heap.size w wr) := HB0.out.trans (HXq.out.mono (by omega))
          by_cases hjl : j < m
          · by_cases hx2 : x2 ≤ 8192
            · have hjk : j < eqs.length := by rw [← HM.out]; exact hjl
              obtain ⟨b', o', rfl, hbl', hrow'⟩ := HQL.out.1 (by intro h; rw [h] at hjk; simp at hjk)
              have HCx : Hid (∀ W, Below w.heap.size w W → ∀ i, i < 8 → W.cell? ⟨b', o' + j * 8 + i, none⟩ = eqs[j].cells[i]?) := fun W h i hi => (h.cell (p := ⟨b', o' + j * 8 + i, none⟩) hbl').trans (hrow' j hjk i hi)
              have HGq := HQs.out _ (List.getElem_mem hjk)
              have HLq := HQL.out.2 _ (List.getElem_mem hjk)
              have C1 := weight_calls eqs[j].e.size eqs[j].e (Nat.le_refl _) HGq.2.2.2 wr (lies_below HBq.out _ HLq.2)
              have HNS : Hid (rowIn textOf 1 w eqs[j].na eqs[j].ns) := HLq.1
              have HGS : Hid (∀ s ∈ eqs[j].ns, s.size ≤ 1048576) := HGq.1
              have hnn : eqs[j].ns.length ≤ 1048576 := HGq.2.1
              clear HGq HLq hrow'
              generalize eqs[j] = y at *
              obtain ⟨na1, nc1, ns1, pq1, e1⟩ := y
              simp only at C1 HNS HGS hnn
              generalize e1.weigh = z1 at *
              obtain ⟨kd1, pl1, nm1, it1, dn1, a1, cap1, l1⟩ := e1
              obtain ⟨p, hP⟩ : ∃ p, p = ns1.length := ⟨_, rfl⟩
              have HP : Hid (p = ns1.length) := hP
              rw [← hP] at hnn
              have HNC : Hid (∀ W, Below w.heap.size w W → W.cell? ⟨b', o' + j * 8, none⟩ = some (.slice na1 p nc1)) := fun W h => by rw [hP]; exact HCx.out W h 0 (by omega)
              clear hP
              have d2 : wr.cell? ⟨b', o' + j * 8 + 2, none⟩ = some (.int .u8 kd1) := HCx.out wr HBq.out 2 (by omega)
              have d3 : wr.cell? ⟨b', o' + j * 8 + 2 + 1, none⟩ = some (.int .i64 pl1) := HCx.out wr HBq.out 3 (by omega)
              have d4 : wr.cell? ⟨b', o' + j * 8 + 2 + 2, none⟩ = some (.string nm1) := HCx.out wr HBq.out 4 (by omega)
              have d5 : wr.cell? ⟨b', o' + j * 8 + 2 + 3, none⟩ = some (.int .i64 it1) := HCx.out wr HBq.out 5 (by omega)
              have d6 : wr.cell? ⟨b', o' + j * 8 + 2 + 4, none⟩ = some (.int .i64 dn1) := HCx.out wr HBq.out 6 (by omega)
              have d7 : wr.cell? ⟨b', o' + j * 8 + 2 + 5, none⟩ = some (.slice a1 l1.length cap1) := HCx.out wr HBq.out 7 (by omega)
              simp only [Ex.val, Ex.cells, List.toArray] at C1
              go_wp2_with fail
              refine C1.mono ?_
              rintro x7 w7 ⟨rfl, hb7⟩
              have HX7 : Hid (Below (w.heap.size + 1) W0 w7) := HXq.out.trans (hb7.mono (by have h1 := HXq.out.size; have h2 := HS0.out; omega))
              have HB7 : Hid (Below w.heap.size w w7) := HBq.out.trans (hb7.mono HBq.out.size)
              have hv7 : w7.cell? ⟨w.heap.size, 0, none⟩ = some (.slice (some ⟨b, o, none⟩) n cap) := (hb7.cell (p := ⟨w.heap.size, 0, none⟩) (World.block_lt_of_cell? wr ⟨w.heap.size, 0, none⟩ hv0)).trans hv0
              have he7 : w7.cell? ⟨B1, 6, none⟩ = some (.slice (some ⟨b', o', none⟩) m qc) := (hb7.cell (p := ⟨B1, 6, none⟩) (World.block_lt_of_cell? wr ⟨B1, 6, none⟩ he6)).trans he6
              have hd0 := HNC.out w7 HB7.out
              clear C1 hb7 d2 d3 d4 d5 d6 d7 hv0 he6 HXq HBq
              go_wp2_with fail
              go_loopw [3, 7] (fun s i wq => ∃ (t : Nat) (x : Int), t ≤ p ∧ i = .int .i64 t ∧ s = .int .i64 x ∧ wq = w7) (fun _ i _ => p - (intOf i).toNat)
              case atStart => exact ⟨0, _, by omega, rfl, rfl, rfl⟩
              case round =>
                obtain ⟨t, x3, ht, rfl, rfl, rfl⟩ := hrel
                by_cases htp : t < p
                · by_cases hx3 : x3 ≤ 8192
                  · have htk : t < ns1.length := by rw [← HP.out]; exact htp
                    obtain ⟨b2, o2, rfl, hbl2, hrow2⟩ := HNS.out (by intro h; rw [h] at htk; simp at htk)
                    have c0 : wr.cell? ⟨b2, o2 + t, none⟩ = some (.string ns1[t]) := by
                      have := hrow2 t htk 0 (by omega)
                      rw [Nat.mul_one, Nat.add_zero] at this
                      exact (HB7.out.cell (p := ⟨b2, o2 + t, none⟩) hbl2).trans this
                    clear hrow2
                    go_wp2_with fail
                    all_goals
                      (go_roundw
                       case rel => exact ⟨t + 1, _, by omega, by go_num, rfl, by first | rfl | trivial⟩
                       case measure => simp [intOf]; omega)
                  · go_wp2_with fail
                    all_goals
                      (go_roundw
                       case rel => exact ⟨j + 1, _, by omega, by go_num, rfl, HX7, hv7, he7⟩
                       case measure => simp [intOf]; omega)
                · obtain rfl : t = p := by omega
                  go_wp2_with fail
                  all_goals
                    (go_roundw
                     case rel => exact ⟨j + 1, _, by omega, by go_num, rfl, HX7, hv7, he7⟩
                     case measure => simp [intOf]; omega)
            · go_wp2_with fail
              all_goals
                (go_roundw
                 case rel => exact ⟨k + 1, _, by omega, by go_num, rfl, HXq, hv0⟩
                 case measure => simp [intOf]; omega)
          · obtain rfl : j = m := by omega
            go_wp2_with fail
            all_goals
              (go_roundw
               case rel => exact ⟨k + 1, _, by omega, by go_num, rfl, HXq, hv0⟩
               case measure => simp [intOf]; omega)
      · go_wp2_with fail
        go_ret
        exact ⟨⟨_, rfl⟩, HB.out⟩
    · obtain rfl : k = n := by omega
      go_wp2_with fail
      all_goals go_ret
      all_goals exact ⟨⟨_, rfl⟩, HB.out⟩
end Go.Proofs.YthbjagmlcemefaaDoor
