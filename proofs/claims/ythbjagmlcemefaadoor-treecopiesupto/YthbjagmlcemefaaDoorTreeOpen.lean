/- A program that came in, opened: params, equations, nodes as they lie in memory, no greater than what was read. -/
import Derived.Test.YthbjagmlcemefaaDoorExOpen
import Derived.Test.YthbjagmlcemefaaDoorTreeMay
namespace Go.Proofs.YthbjagmlcemefaaDoor
open Go.ChangeShapes Go.WideShapes Go.RowKit
open Ex.size Ex.depth Ex.lies Ex.bulk Ex.good
def sumWt {α : Type} (wt : α → Nat) : List α → Nat
  | [] => 0
  | x :: r => wt x + sumWt wt r
theorem sumWt_mem {α : Type} {wt : α → Nat} {l : List α} {x : α} (h : x ∈ l) : wt x ≤ sumWt wt l := by
  induction l with
  | nil => cases h
  | cons y r ih =>
    simp only [sumWt]
    rcases List.mem_cons.1 h with rfl | h
    · omega
    · have := ih h; omega
theorem sumWt_len {α : Type} {wt : α → Nat} {l : List α} (h : ∀ x ∈ l, 1 ≤ wt x) : l.length ≤ sumWt wt l := by
  induction l with
  | nil => simp
  | cons y r ih =>
    have h1 := h y (by simp)
    have h2 := ih fun x hx => h x (by simp [hx])
    simp only [sumWt, List.length_cons]
    omega
theorem build_row {α H : Type} (f : α → List Value) (z : Nat) (wt : α → Nat) (P : α → Prop) (w : World) (b : Nat) : ∀ (els : List (DataW H × List MemPlace)) (o : Nat), (∀ i (h : i < els.length), ∃ x : α, (∀ j, j < z → w.cell? ⟨b, o + i * z + j, none⟩ = (f x)[j]?) ∧ P x ∧ wt x ≤ Rows.uptoBulk els[i].1) →
    ∃ l : List α, l.length = els.length ∧ rowAt f z w b o l ∧ (∀ x ∈ l, P x) ∧ sumWt wt l ≤ Rows.uptoBulkAll (els.map (·.1))
  | [], _, _ => ⟨[], rfl, fun i hi => (by simp at hi), fun x hx => (by cases hx), by simp [sumWt]⟩
  | y :: r, o, h => by
    obtain ⟨x, h1, h2, h3⟩ := h 0 (by simp)
    obtain ⟨l, i1, i2, i3, i4⟩ := build_row f z wt P w b r (o + z) (fun i hi => by
      obtain ⟨x, k1, k2, k3⟩ := h (i + 1) (by simpa using hi)
      exact ⟨x, fun j hj => by have := k1 j hj; rwa [show o + (i + 1) * z + j = o + z + i * z + j by rw [Nat.add_mul]; omega] at this, k2, k3⟩)
    refine ⟨x :: l, by simp [i1], fun i hi j hj => ?_, fun v hv => ?_, ?_⟩
    · cases i with
      | zero => simpa using h1 j hj
      | succ i =>
        have := i2 i (by simpa using hi) j hj
        rw [show o + (i + 1) * z + j = o + z + i * z + j by rw [Nat.add_mul]; omega]
        exact this
    · rcases List.mem_cons.1 hv with rfl | hv
      · exact h2
      · exact i3 v hv
    · simp only [sumWt, List.map_cons, Rows.uptoBulkAll]
      simp only [List.getElem_cons_zero] at h3
      omega
theorem open_row {α H : Type} {enc : TypeId × Value → H} {w : World} {base : Nat} {sp : Nat → Bool} {hd : Bool} (f : α → List Value) (z : Nat) (wt : α → Nat) (P : α → Prop) (hz0 : 0 < z) (hf : ∀ x, ∃ v r, f x = v :: r) (t e : TypeId) (ht : Tryd.prog.underlying t = some (.slice e)) (hz : Tryd.prog.cellsOf e = z) (fuel : Nat)
    (el : ∀ n, n < fuel → ∀ (cs : List Value) (x : DataW H × List MemPlace), DataW.trod enc Tryd.prog w base sp hd n e cs = some x → ∃ y : α, cs = f y ∧ P y ∧ wt y ≤ Rows.uptoBulk x.1)
    (cs : List Value) (x : DataW H × List MemPlace) (h : DataW.trod enc Tryd.prog w base sp hd fuel t cs = some x) :
    ∃ (a : Option Addr) (l : List α) (cap : Nat), cs = [.slice a l.length cap] ∧ rowIn f z w a l ∧ (∀ y ∈ l, P y) ∧ sumWt wt l + 1 ≤ Rows.uptoBulk x.1 := by
  rcases DataW.trod_slice ht h with ⟨rfl, rfl⟩ | ⟨a, len, cap, elems, rest, n', rfl, rfl, rfl, hb, hl, hm, hel, hin, -, -⟩
  · exact ⟨none, [], 0, rfl, fun h => absurd rfl h, fun y hy => (by cases hy), by simp [sumWt, Rows.uptoBulk]⟩
  · rw [hz] at hin
    by_cases h00 : len = 0
    · subst h00
      exact ⟨some a, [], cap, rfl, fun h => absurd rfl h, fun y hy => (by cases hy), by simp [sumWt, Rows.uptoBulk]⟩
    · have each : ∀ i (h : i < elems.length), ∃ cs', w.cells? base (a.add (i * z)) z = some cs' ∧ DataW.trod enc Tryd.prog w base sp hd n' e cs' = some elems[i] := fun i hi => by
        have := hin i (by omega)
        rw [List.getElem?_eq_getElem hi] at this
        obtain ⟨cs', k1, k2⟩ := Option.bind_eq_some_iff.1 this
        exact ⟨cs', k1, k2⟩
      obtain ⟨b, o, spot⟩ := a
      have hfirst : ∃ v, w.cell? ((⟨b, o, spot⟩ : Addr).add (0 * z) |>.add 0) = some v := by
        obtain ⟨cs', k1, k2⟩ := each 0 (by omega)
        obtain ⟨y, k3, _⟩ := el n' (by omega) cs' _ k2
        obtain ⟨_, _, k4⟩ := World.cells?_some k1
        have k5 := k4 0 hz0
        obtain ⟨v, r, hv⟩ := hf y
        rw [k3, hv] at k5
        exact ⟨v, by simpa using k5⟩
      have hspot : spot = none := by
        obtain ⟨v, hv⟩ := hfirst
        simpa [Addr.add] using World.cell?_spot hv
      subst hspot
      have hlt : b < w.heap.size := by
        obtain ⟨v, hv⟩ := hfirst
        rw [addr_add, addr_add] at hv
        exact World.block_lt_of_cell? w ⟨b, _, none⟩ hv
      obtain ⟨l, i1, i2, i3, i4⟩ := build_row f z wt P w b elems o (fun i hi => by
        obtain ⟨cs', k1, k2⟩ := each i hi
        obtain ⟨y, k3, k4, k5⟩ := el n' (by omega) cs' _ k2
        obtain ⟨_, _, k7⟩ := World.cells?_some k1
        refine ⟨y, fun j hj => ?_, k4, k5⟩
        have k8 := k7 j hj
        rw [addr_add, addr_add, k3] at k8
        exact k8)
      refine ⟨some ⟨b, o, none⟩, l, cap, by rw [i1, hel], fun _ => ⟨b, o, rfl, hlt, i2⟩, i3, ?_⟩
      simp only [Rows.uptoBulk]
      omega
theorem open_text {H : Type} {enc : TypeId × Value → H} {w : World} {base : Nat} {sp : Nat → Bool} {hd : Bool} (n : Nat) (cs : List Value) (x : DataW H × List MemPlace) (h : DataW.trod enc Tryd.prog w base sp hd n 9 cs = some x) : ∃ y : ByteArray, cs = textOf y ∧ True ∧ y.size + 1 ≤ Rows.uptoBulk x.1 := by
  obtain ⟨s, rfl, rfl, _⟩ := DataW.trod_string Tryd.underlying9 h
  refine ⟨s, rfl, trivial, ?_⟩
  simp only [Rows.uptoBulk, size_bytes]
  omega
def pmWt (p : Pm) : Nat := p.nm.size + 1
set_option maxRecDepth 100000 in
theorem open_pm {H : Type} {enc : TypeId × Value → H} {w : World} {base : Nat} {sp : Nat → Bool} {hd : Bool} (fuel : Nat) (cs : List Value) (x : DataW H × List MemPlace) (h : DataW.trod enc Tryd.prog w base sp hd fuel 94 cs = some x) : ∃ y : Pm, cs = y.cells ∧ True ∧ pmWt y ≤ Rows.uptoBulk x.1 := by
  obtain ⟨xs, n, rfl, rfl, hlen, hxl, hf⟩ := DataW.trod_struct Tryd.underlying94 h
  have qP : Tryd.prog.cellsOf 94 = 7 := by kernel_rfl
  rw [qP] at hlen
  have q9 : Tryd.prog.cellsOf 9 = 1 := by kernel_rfl
  have q5 : Tryd.prog.cellsOf 5 = 1 := by kernel_rfl
  have q3 : Tryd.prog.cellsOf 3 = 1 := by kernel_rfl
  have q4 : Tryd.prog.cellsOf 4 = 1 := by kernel_rfl
  have q2 : Tryd.prog.cellsOf 2 = 1 := by kernel_rfl
  match cs, hlen with
  | [v0, v1, v2, v3, v4, v5, v6], _ =>
  match xs, hxl with
  | [y0, y1, y2, y3, y4, y5, y6], _ =>
  have h0 : DataW.trod enc Tryd.prog w base sp hd n 9 [v0] = some y0 := by have := hf 0 _ rfl; simpa [q9] using this
  have h1 : DataW.trod enc Tryd.prog w base sp hd n 5 [v1] = some y1 := by have := hf 1 _ rfl; simpa [q5] using this
  have h2 : DataW.trod enc Tryd.prog w base sp hd n 3 [v2] = some y2 := by have := hf 2 _ rfl; simpa [q3] using this
  have h3 : DataW.trod enc Tryd.prog w base sp hd n 4 [v3] = some y3 := by have := hf 3 _ rfl; simpa [q4] using this
  have h4 : DataW.trod enc Tryd.prog w base sp hd n 2 [v4] = some y4 := by have := hf 4 _ rfl; simpa [q2] using this
  have h5 : DataW.trod enc Tryd.prog w base sp hd n 2 [v5] = some y5 := by have := hf 5 _ rfl; simpa [q2] using this
  have h6 : DataW.trod enc Tryd.prog w base sp hd n 2 [v6] = some y6 := by have := hf 6 _ rfl; simpa [q2] using this
  obtain ⟨s0, e0, rfl, _⟩ := DataW.trod_string Tryd.underlying9 h0
  obtain ⟨s1, e1, rfl, _⟩ := DataW.trod_int Tryd.underlying5 h1
  obtain ⟨s2, e2, rfl, _⟩ := DataW.trod_int Tryd.underlying3 h2
  obtain ⟨s3, e3, rfl⟩ := DataW.trod_bool Tryd.underlying4 h3
  obtain ⟨s4, e4, rfl, _⟩ := DataW.trod_int Tryd.underlying2 h4
  obtain ⟨s5, e5, rfl, _⟩ := DataW.trod_int Tryd.underlying2 h5
  obtain ⟨s6, e6, rfl, _⟩ := DataW.trod_int Tryd.underlying2 h6
  simp only [List.cons.injEq, and_true] at e0 e1 e2 e3 e4 e5 e6
  subst e0 e1 e2 e3 e4 e5 e6
  refine ⟨⟨s0, s1, s2, s3, s4, s5, s6⟩, rfl, trivial, ?_⟩
  simp only [pmWt, List.map_cons, List.map_nil, Rows.uptoBulk, Rows.uptoBulkAll, size_bytes]
  omega
def eqWt (q : Eqn) : Nat := sumWt (fun s : ByteArray => s.size + 1) q.ns + q.e.bulk + 1
set_option maxRecDepth 100000 in
theorem open_eqn {H : Type} {enc : TypeId × Value → H} {w : World} {base : Nat} {sp : Nat → Bool} {hd : Bool} (fuel : Nat) (cs : List Value) (x : DataW H × List MemPlace) (h : DataW.trod enc Tryd.prog w base sp hd fuel 36 cs = some x) : ∃ y : Eqn, cs = y.cells ∧ (y.lies w ∧ y.e.good) ∧ eqWt y ≤ Rows.uptoBulk x.1 := by
  obtain ⟨xs, n, rfl, rfl, hlen, hxl, hf⟩ := DataW.trod_struct Tryd.underlying36 h
  have qP : Tryd.prog.cellsOf 36 = 8 := by kernel_rfl
  rw [qP] at hlen
  have qs : Tryd.prog.cellsOf 30 = 1 := by kernel_rfl
  have q3 : Tryd.prog.cellsOf 3 = 1 := by kernel_rfl
  have q9 : Tryd.prog.cellsOf 9 = 1 := by kernel_rfl
  match cs, hlen with
  | [v0, v1, v2, v3, v4, v5, v6, v7], _ =>
  match xs, hxl with
  | [y0, y1, y2], _ =>
  have h0 : DataW.trod enc Tryd.prog w base sp hd n 30 [v0] = some y0 := by have := hf 0 _ rfl; simpa [qs] using this
  have h1 : DataW.trod enc Tryd.prog w base sp hd n 3 [v1] = some y1 := by have := hf 1 _ rfl; simpa [q3] using this
  have h2 : DataW.trod enc Tryd.prog w base sp hd n 33 [v2, v3, v4, v5, v6, v7] = some y2 := by have := hf 2 _ rfl; simpa [Tryd.exprCells] using this
  obtain ⟨a, l, cap, e0, r1, r2, r3⟩ := open_row textOf 1 (fun s : ByteArray => s.size + 1) (fun _ => True) (by decide) (fun x => ⟨_, _, rfl⟩) 30 9 Tryd.underlying30 q9 n (fun m _ cs x h => open_text m cs x h) _ _ h0
  obtain ⟨s1, e1, rfl, _⟩ := DataW.trod_int Tryd.underlying3 h1
  obtain ⟨e, e2, g1, g2, g3⟩ := open_ex n _ _ h2
  simp only [List.cons.injEq, and_true] at e0 e1
  subst e0 e1
  refine ⟨⟨a, cap, l, s1, e⟩, by simp only [Eqn.cells]; rw [← e2], ⟨⟨r1, g1⟩, g2⟩, ?_⟩
  simp only [eqWt, List.map_cons, List.map_nil, Rows.uptoBulk, Rows.uptoBulkAll]
  omega
def ndWt (n : Nd) : Nat := n.nm.size + 1 + sumWt pmWt n.ins + sumWt pmWt n.outs + sumWt pmWt n.vars + sumWt eqWt n.eqs
set_option maxRecDepth 100000 in
theorem open_nd {H : Type} {enc : TypeId × Value → H} {w : World} {base : Nat} {sp : Nat → Bool} {hd : Bool} (fuel : Nat) (cs : List Value) (x : DataW H × List MemPlace) (h : DataW.trod enc Tryd.prog w base sp hd fuel 29 cs = some x) : ∃ y : Nd, cs = y.cells ∧ (y.lies w ∧ ∀ q ∈ y.eqs, q.e.good) ∧ ndWt y ≤ Rows.uptoBulk x.1 := by
  obtain ⟨xs, n, rfl, rfl, hlen, hxl, hf⟩ := DataW.trod_struct Tryd.underlying29 h
  have qP : Tryd.prog.cellsOf 29 = 7 := by kernel_rfl
  rw [qP] at hlen
  have q4 : Tryd.prog.cellsOf 4 = 1 := by kernel_rfl
  have q9 : Tryd.prog.cellsOf 9 = 1 := by kernel_rfl
  have q3 : Tryd.prog.cellsOf 3 = 1 := by kernel_rfl
  have qp : Tryd.prog.cellsOf 26 = 1 := by kernel_rfl
  have qq : Tryd.prog.cellsOf 27 = 1 := by kernel_rfl
  have qpe : Tryd.prog.cellsOf 94 = 7 := by kernel_rfl
  have qqe : Tryd.prog.cellsOf 36 = 8 := by kernel_rfl
  match cs, hlen with
  | [v0, v1, v2, v3, v4, v5, v6], _ =>
  match xs, hxl with
  | [y0, y1, y2, y3, y4, y5, y6], _ =>
  have h0 : DataW.trod enc Tryd.prog w base sp hd n 4 [v0] = some y0 := by have := hf 0 _ rfl; simpa [q4] using this
  have h1 : DataW.trod enc Tryd.prog w base sp hd n 9 [v1] = some y1 := by have := hf 1 _ rfl; simpa [q9] using this
  have h2 : DataW.trod enc Tryd.prog w base sp hd n 3 [v2] = some y2 := by have := hf 2 _ rfl; simpa [q3] using this
  have h3 : DataW.trod enc Tryd.prog w base sp hd n 26 [v3] = some y3 := by have := hf 3 _ rfl; simpa [qp] using this
  have h4 : DataW.trod enc Tryd.prog w base sp hd n 26 [v4] = some y4 := by have := hf 4 _ rfl; simpa [qp] using this
  have h5 : DataW.trod enc Tryd.prog w base sp hd n 26 [v5] = some y5 := by have := hf 5 _ rfl; simpa [qp] using this
  have h6 : DataW.trod enc Tryd.prog w base sp hd n 27 [v6] = some y6 := by have := hf 6 _ rfl; simpa [qq] using this
  obtain ⟨s0, e0, rfl⟩ := DataW.trod_bool Tryd.underlying4 h0
  obtain ⟨s1, e1, rfl, _⟩ := DataW.trod_string Tryd.underlying9 h1
  obtain ⟨s2, e2, rfl, _⟩ := DataW.trod_int Tryd.underlying3 h2
  obtain ⟨a3, l3, c3, e3, r3, -, t3⟩ := open_row Pm.cells 7 pmWt (fun _ => True) (by decide) (fun x => ⟨_, _, rfl⟩) 26 94 Tryd.underlying26 qpe n (fun m _ cs x h => open_pm m cs x h) _ _ h3
  obtain ⟨a4, l4, c4, e4, r4, -, t4⟩ := open_row Pm.cells 7 pmWt (fun _ => True) (by decide) (fun x => ⟨_, _, rfl⟩) 26 94 Tryd.underlying26 qpe n (fun m _ cs x h => open_pm m cs x h) _ _ h4
  obtain ⟨a5, l5, c5, e5, r5, -, t5⟩ := open_row Pm.cells 7 pmWt (fun _ => True) (by decide) (fun x => ⟨_, _, rfl⟩) 26 94 Tryd.underlying26 qpe n (fun m _ cs x h => open_pm m cs x h) _ _ h5
  obtain ⟨a6, l6, c6, e6, r6, p6, t6⟩ := open_row Eqn.cells 8 eqWt (fun y => y.lies w ∧ y.e.good) (by decide) (fun x => ⟨_, _, rfl⟩) 27 36 Tryd.underlying27 qqe n (fun m _ cs x h => open_eqn m cs x h) _ _ h6
  simp only [List.cons.injEq, and_true] at e0 e1 e2 e3 e4 e5 e6
  subst e0 e1 e2 e3 e4 e5 e6
  refine ⟨⟨s0, s1, s2, a3, c3, l3, a4, c4, l4, a5, c5, l5, a6, c6, l6⟩, rfl, ⟨⟨r3, r4, r5, r6, fun q hq => (p6 q hq).1⟩, fun q hq => (p6 q hq).2⟩, ?_⟩
  simp only [ndWt, List.map_cons, List.map_nil, Rows.uptoBulk, Rows.uptoBulkAll, size_bytes]
  omega
theorem eqs_sizes (l : List Eqn) : eqSizes l ≤ sumWt eqWt l := by
  induction l with
  | nil => simp [eqSizes]
  | cons q r ih => have := size_bulk q.e; simp only [eqSizes, sumWt, eqWt] at *; omega
theorem nds_sizes (l : List Nd) : ndSizes l ≤ sumWt ndWt l := by
  induction l with
  | nil => simp [ndSizes]
  | cons n r ih => have := eqs_sizes n.eqs; simp only [ndSizes, sumWt, ndWt] at *; omega
theorem nd_good {n : Nd} (h : ndWt n ≤ 1048576) (hg : ∀ q ∈ n.eqs, q.e.good) : n.good := by
  rw [ndWt] at h
  have pl : ∀ l : List Pm, l.length ≤ sumWt pmWt l := fun l => sumWt_len fun x _ => by simp [pmWt]
  have ql : n.eqs.length ≤ sumWt eqWt n.eqs := sumWt_len fun x _ => by simp [eqWt]
  have p1 := pl n.ins
  have p2 := pl n.outs
  have p3 := pl n.vars
  have pw : ∀ (l : List Pm) (p : Pm), p ∈ l → p.nm.size + 1 ≤ sumWt pmWt l := fun l p hp => sumWt_mem (wt := pmWt) hp
  refine ⟨by omega, by omega, by omega, by omega, by omega, fun p hp => by have := pw _ p hp; omega, fun p hp => by have := pw _ p hp; omega, fun p hp => by have := pw _ p hp; omega, fun q hq => ?_⟩
  have h1 := sumWt_mem (wt := eqWt) hq
  have h2 : eqWt q ≤ 1048576 := by omega
  rw [eqWt] at h2
  refine ⟨fun s hs => ?_, ?_, hg q hq, by omega⟩
  · have := sumWt_mem (wt := fun s : ByteArray => s.size + 1) hs
    omega
  · have := sumWt_len (wt := fun s : ByteArray => s.size + 1) (l := q.ns) fun x _ => by simp
    omega
set_option maxRecDepth 100000 in
theorem open_prog {H : Type} {enc : TypeId × Value → H} {W : World} {base b0 : Nat} {sp : Nat → Bool} {hd : Bool} {v : Value} {d : DataW H} {p : List MemPlace} (hv : Value.okWide Tryd.prog W .any b0 25 v) (h : DataW.Trod enc Tryd.prog W base sp hd 25 v d p) (hbk : Rows.uptoBulk d ≤ 1048576) :
    ∃ (a : Option Addr) (l : List Nd) (cap : Nat), v = .agg #[.slice a l.length cap] ∧ Lie W a l ∧ Goods l := by
  obtain ⟨cs, rfl, hsz⟩ := okWide_struct Tryd.underlying25 hv
  obtain ⟨fuel, hf0⟩ := h
  obtain ⟨xs, n, rfl, hx, hlen, hxl, hf⟩ := DataW.trod_struct Tryd.underlying25 hf0
  have qP : Tryd.prog.cellsOf 25 = 1 := by kernel_rfl
  have qn : Tryd.prog.cellsOf 23 = 1 := by kernel_rfl
  have qe : Tryd.prog.cellsOf 29 = 7 := by kernel_rfl
  rw [qP] at hlen
  have hcs : (Value.agg cs).cells.toList = cs.toList := by simp [Value.cells]
  rw [hcs] at hf hlen
  match hc : cs.toList, hlen with
  | [v0], _ =>
  match xs, hxl with
  | [y0], _ =>
  rw [hc] at hf
  have h0 : DataW.trod enc Tryd.prog W base sp hd n 23 [v0] = some y0 := by have := hf 0 _ rfl; simpa [qn] using this
  obtain ⟨a, l, cap, e0, r1, r2, r3⟩ := open_row Nd.cells 7 ndWt (fun y => y.lies W ∧ ∀ q ∈ y.eqs, q.e.good) (by decide) (fun x => ⟨_, _, rfl⟩) 23 29 Tryd.underlying23 qe n (fun m _ cs x h => open_nd m cs x h) _ _ h0
  simp only [List.cons.injEq, and_true] at e0
  subst e0
  have hd : Rows.uptoBulk d = Rows.uptoBulk y0.1 + 1 := by
    have := congrArg Prod.fst hx
    simp only at this
    rw [this]
    simp [Rows.uptoBulk, Rows.uptoBulkAll]
  have hsum : sumWt ndWt l ≤ 1048576 := by omega
  refine ⟨a, l, cap, ?_, ⟨r1, fun n hn => (r2 n hn).1⟩, fun n hn => nd_good (Nat.le_trans (sumWt_mem hn) hsum) (r2 n hn).2, ?_, Nat.le_trans (nds_sizes l) hsum⟩
  · congr 1
    apply Array.toList_inj.1
    rw [hc]
  · exact Nat.le_trans (sumWt_len fun x _ => by rw [ndWt]; omega) hsum
end Go.Proofs.YthbjagmlcemefaaDoor
