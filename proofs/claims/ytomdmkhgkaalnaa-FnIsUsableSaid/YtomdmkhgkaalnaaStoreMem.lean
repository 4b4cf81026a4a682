/- Words for memory that holds a store of what is compiled, and contracts of the exact laws' looks at it. Written by mkrow.py. -/
import Derived.Test.YtomdmkhgkaalnaaSzTree
import Derived.Test.YtomdmkhgkaalnaaReadIn
import Derived.Test.YtomdmkhgkaalnaaExTools
import Derived.Test.YtomdmkhgkaalnaaPlainC
set_option linter.unusedVariables false
set_option linter.unusedSimpArgs false
namespace Go.Proofs.Ytomdmkhgkaalnaa.Nm
open Go.RowKit

/-- The slice v reads as what is compiled, cs, in w, in blocks of D, and so do their bodies. -/
def CmpsIn (w : World) (D : Nat → Prop) (v : Value) (cs : List Cmp) : Prop :=
  ∃ a cap, v = .slice a cs.length cap ∧ cs.length ≤ cap ∧ cap ≤ maxLen ∧
    (0 < cs.length → ∃ b off, a = some ⟨b, off, none⟩ ∧ D b ∧ b < w.heap.size ∧
      ∀ i (h : i < cs.length), ∃ bv, StmsIn w D bv cs[i].body ∧ w.cell? ⟨b, off + i * 8, none⟩ = some (.int .i64 cs[i].root) ∧ w.cell? ⟨b, off + i * 8 + 1, none⟩ = some (.string (mk cs[i].module)) ∧ w.cell? ⟨b, off + i * 8 + 2, none⟩ = some (.bool cs[i].init) ∧ w.cell? ⟨b, off + i * 8 + 3, none⟩ = some (.int .i64 cs[i].mode) ∧ w.cell? ⟨b, off + i * 8 + 4, none⟩ = some (.int .i64 cs[i].stamp) ∧ w.cell? ⟨b, off + i * 8 + 5, none⟩ = some (.int .i64 cs[i].size) ∧ w.cell? ⟨b, off + i * 8 + 6, none⟩ = some (.int .i64 cs[i].hash) ∧ w.cell? ⟨b, off + i * 8 + 7, none⟩ = some bv)
theorem CmpsIn.keep {w w' : World} {D : Nat → Prop} {v : Value} {cs : List Cmp} (h : CmpsIn w D v cs) (hs : w.heap.size ≤ w'.heap.size) (hk : ∀ b, D b → b < w.heap.size → w'.heap[b]? = w.heap[b]?) : CmpsIn w' D v cs := by
  obtain ⟨a, cap, h1, h2, h3, h4⟩ := h
  refine ⟨a, cap, h1, h2, h3, fun hx => ?_⟩
  obtain ⟨b, off, e1, e2, e3, e4⟩ := h4 hx
  refine ⟨b, off, e1, e2, Nat.lt_of_lt_of_le e3 hs, fun i hi => ?_⟩
  have hc : ∀ o, w'.cell? ⟨b, o, none⟩ = w.cell? ⟨b, o, none⟩ := fun o => by rw [World.cell?_of_block (w := w) (hk b e2 e3)]
  simp only [hc]
  obtain ⟨bv, g1, g2⟩ := e4 i hi
  exact ⟨bv, g1.keep hs hk, g2⟩
theorem CmpsIn.below {w w' : World} {D : Nat → Prop} {v : Value} {cs : List Cmp} (h : CmpsIn w D v cs) (hb : Below w.heap.size w w') : CmpsIn w' D v cs := h.keep hb.size (fun b _ hlt => hb.block b hlt)
theorem CmpsIn.mono {w : World} {D D' : Nat → Prop} {v : Value} {cs : List Cmp} (h : CmpsIn w D v cs) (hd : ∀ b, b < w.heap.size → D b → D' b) : CmpsIn w D' v cs := by
  obtain ⟨a, cap, h1, h2, h3, h4⟩ := h
  refine ⟨a, cap, h1, h2, h3, fun hx => ?_⟩
  obtain ⟨b, off, e1, e2, e3, e4⟩ := h4 hx
  refine ⟨b, off, e1, hd b e3 e2, e3, fun i hi => ?_⟩
  obtain ⟨bv, g1, g2⟩ := e4 i hi
  exact ⟨bv, g1.mono hd, g2⟩
theorem CmpsIn.len {w : World} {D : Nat → Prop} {v : Value} {cs : List Cmp} (h : CmpsIn w D v cs) : ∃ a cap, v = .slice a cs.length cap ∧ cs.length ≤ cap ∧ cap ≤ maxLen := by
  obtain ⟨a, cap, h1, h2, h3, _⟩ := h
  exact ⟨a, cap, h1, h2, h3⟩
theorem CmpsIn.at_ {w : World} {D : Nat → Prop} {v : Value} {cs : List Cmp} (h : CmpsIn w D v cs) {i : Nat} (hi : i < cs.length) : ∃ b off cap bv, v = .slice (some ⟨b, off, none⟩) cs.length cap ∧ D b ∧ b < w.heap.size ∧ StmsIn w D bv cs[i].body ∧
    w.cell? ⟨b, off + i * 8, none⟩ = some (.int .i64 cs[i].root) ∧ w.cell? ⟨b, off + i * 8 + 1, none⟩ = some (.string (mk cs[i].module)) ∧ w.cell? ⟨b, off + i * 8 + 2, none⟩ = some (.bool cs[i].init) ∧ w.cell? ⟨b, off + i * 8 + 3, none⟩ = some (.int .i64 cs[i].mode) ∧ w.cell? ⟨b, off + i * 8 + 4, none⟩ = some (.int .i64 cs[i].stamp) ∧ w.cell? ⟨b, off + i * 8 + 5, none⟩ = some (.int .i64 cs[i].size) ∧ w.cell? ⟨b, off + i * 8 + 6, none⟩ = some (.int .i64 cs[i].hash) ∧ w.cell? ⟨b, off + i * 8 + 7, none⟩ = some bv := by
  obtain ⟨a, cap, h1, h2, h3, h4⟩ := h
  obtain ⟨b, off, e1, e2, e3, e4⟩ := h4 (by omega)
  subst e1
  obtain ⟨bv, g1, g2⟩ := e4 i hi
  exact ⟨b, off, cap, bv, h1, e2, e3, g1, g2⟩
/-- The front of a store. -/
theorem CmpsIn.take {w : World} {D : Nat → Prop} {a : Option Addr} {cap n : Nat} {cs : List Cmp} (h : CmpsIn w D (.slice a n cap) cs) (k : Nat) (hk : k ≤ cs.length) : CmpsIn w D (.slice a k cap) (cs.take k) := by
  obtain ⟨a', cap', h1, h2, h3, h4⟩ := h
  simp only [Value.slice.injEq] at h1
  obtain ⟨rfl, _, rfl⟩ := h1
  have hl : (cs.take k).length = k := by rw [List.length_take]; omega
  refine ⟨a, cap, by rw [hl], by omega, h3, fun hx => ?_⟩
  obtain ⟨b, off, e1, e2, e3, e4⟩ := h4 (by omega)
  refine ⟨b, off, e1, e2, e3, fun i hi => ?_⟩
  rw [hl] at hi
  have := e4 i (by omega)
  simpa only [List.getElem_take] using this
/-- The texts of what is compiled are not too long. -/
def ShortC (B : Nat) (c : Cmp) : Prop := c.module.length ≤ B ∧ Short B c.body
def ShortCs (B : Nat) (cs : List Cmp) : Prop := ∀ c ∈ cs, ShortC B c
def cmpCells (p : Cmp × Value) : List Value := [.int .i64 p.1.root, .string (mk p.1.module), .bool p.1.init, .int .i64 p.1.mode, .int .i64 p.1.stamp, .int .i64 p.1.size, .int .i64 p.1.hash, p.2]
theorem cmpCells_len (p : Cmp × Value) : (cmpCells p).length = 8 := rfl
theorem list8 {l : List Value} (h : l.length = 8) : ∃ a0 a1 a2 a3 a4 a5 a6 a7, l = [a0, a1, a2, a3, a4, a5, a6, a7] := by
  match l, h with
  | [a0, a1, a2, a3, a4, a5, a6, a7], _ => exact ⟨a0, a1, a2, a3, a4, a5, a6, a7, rfl⟩
section
variable {w : World} {B e g cap n : Nat}
theorem own8 {L : List (Cmp × Value)} (h : w.ownsRow B e 8 (.slice (some ⟨g, 0, none⟩) n cap) n (L.flatMap cmpCells)) (i : Nat) (hi : i < L.length) :
    (w.cell? ⟨g, i * 8, none⟩ = some (.int .i64 L[i].1.root) ∧ w.cell? ⟨g, i * 8 + 1, none⟩ = some (.string (mk L[i].1.module)) ∧ w.cell? ⟨g, i * 8 + 2, none⟩ = some (.bool L[i].1.init) ∧ w.cell? ⟨g, i * 8 + 3, none⟩ = some (.int .i64 L[i].1.mode) ∧ w.cell? ⟨g, i * 8 + 4, none⟩ = some (.int .i64 L[i].1.stamp) ∧ w.cell? ⟨g, i * 8 + 5, none⟩ = some (.int .i64 L[i].1.size) ∧ w.cell? ⟨g, i * 8 + 6, none⟩ = some (.int .i64 L[i].1.hash) ∧ w.cell? ⟨g, i * 8 + 7, none⟩ = some L[i].2) ∧
    (w.frozen? ⟨g, i * 8, none⟩ = false ∧ w.frozen? ⟨g, i * 8 + 1, none⟩ = false ∧ w.frozen? ⟨g, i * 8 + 2, none⟩ = false ∧ w.frozen? ⟨g, i * 8 + 3, none⟩ = false ∧ w.frozen? ⟨g, i * 8 + 4, none⟩ = false ∧ w.frozen? ⟨g, i * 8 + 5, none⟩ = false ∧ w.frozen? ⟨g, i * 8 + 6, none⟩ = false ∧ w.frozen? ⟨g, i * 8 + 7, none⟩ = false) := by
  have hl := fm_len cmpCells 8 L cmpCells_len
  have hn : (L.flatMap cmpCells).length = n * 8 := h.1
  have hc : ∀ j, j < 8 → w.cell? ⟨g, i * 8 + j, none⟩ = (cmpCells L[i])[j]? := fun j hj => by
    rw [h.cellAt (i * 8 + j) (by omega), fm_get cmpCells 8 L i j hi hj cmpCells_len]
  exact ⟨⟨hc 0 (by omega), hc 1 (by omega), hc 2 (by omega), hc 3 (by omega), hc 4 (by omega), hc 5 (by omega), hc 6 (by omega), hc 7 (by omega)⟩, h.frozenAt _, h.frozenAt _, h.frozenAt _, h.frozenAt _, h.frozenAt _, h.frozenAt _, h.frozenAt _, h.frozenAt _⟩
theorem own8_put {L : List (Cmp × Value)} (h : w.ownsRow B e 8 (.slice (some ⟨g, 0, none⟩) n cap) n (L.flatMap cmpCells)) (i : Nat) (hi : i < L.length) (p : Cmp × Value) :
    (((((((((w.setCell ⟨g, i * 8, none⟩ (.int .i64 p.1.root)).setCell ⟨g, i * 8 + 1, none⟩ (.string (mk p.1.module))).setCell ⟨g, i * 8 + 2, none⟩ (.bool p.1.init)).setCell ⟨g, i * 8 + 3, none⟩ (.int .i64 p.1.mode)).setCell ⟨g, i * 8 + 4, none⟩ (.int .i64 p.1.stamp)).setCell ⟨g, i * 8 + 5, none⟩ (.int .i64 p.1.size)).setCell ⟨g, i * 8 + 6, none⟩ (.int .i64 p.1.hash)).setCell ⟨g, i * 8 + 7, none⟩ p.2)).ownsRow B e 8 (.slice (some ⟨g, 0, none⟩) n cap) n ((L.set i p).flatMap cmpCells) := by
  have h5 := ((((((((h.stored (i * 8) (.int .i64 p.1.root)).1.stored (i * 8 + 1) (.string (mk p.1.module))).1.stored (i * 8 + 2) (.bool p.1.init)).1.stored (i * 8 + 3) (.int .i64 p.1.mode)).1.stored (i * 8 + 4) (.int .i64 p.1.stamp)).1.stored (i * 8 + 5) (.int .i64 p.1.size)).1.stored (i * 8 + 6) (.int .i64 p.1.hash)).1.stored (i * 8 + 7) p.2).1
  have hA := fm_take_len cmpCells 8 L i hi cmpCells_len
  obtain ⟨a0, a1, a2, a3, a4, a5, a6, a7, ha⟩ := list8 (cmpCells_len L[i])
  rw [fm_split cmpCells L i hi, ha] at h5
  rw [fm_put cmpCells L i p hi]
  have s0 : ((L.take i).flatMap cmpCells ++ ([a0, a1, a2, a3, a4, a5, a6, a7] ++ (L.drop (i + 1)).flatMap cmpCells)).set (i * 8) (.int .i64 p.1.root) = (L.take i).flatMap cmpCells ++ ([a0, a1, a2, a3, a4, a5, a6, a7].set 0 (.int .i64 p.1.root) ++ (L.drop (i + 1)).flatMap cmpCells) := set_mid _ _ _ (i * 8) 0 _ hA (by simp)
  rw [s0, set_mid _ _ _ (i * 8) 1 _ hA (by simp), set_mid _ _ _ (i * 8) 2 _ hA (by simp), set_mid _ _ _ (i * 8) 3 _ hA (by simp), set_mid _ _ _ (i * 8) 4 _ hA (by simp), set_mid _ _ _ (i * 8) 5 _ hA (by simp), set_mid _ _ _ (i * 8) 6 _ hA (by simp), set_mid _ _ _ (i * 8) 7 _ hA (by simp)] at h5
  exact h5
end
def zeroCmp : Cmp × Value := (⟨0, [], false, 0, 0, 0, 0, []⟩, .slice none 0 0)
theorem made8 (n : Nat) : (madeCells #[.int .i64 0, .string ByteArray.empty, .bool false, .int .i64 0, .int .i64 0, .int .i64 0, .int .i64 0, .slice none 0 0] (n * 8)).toList = (List.replicate n zeroCmp).flatMap cmpCells := by
  rw [made_cells _ 8 rfl (by omega), List.flatMap_def, List.map_replicate]; rfl
theorem CmpsIn.of_owns {w : World} {B : Nat} {e : TypeId} {v : Value} {ps : List (Cmp × Value)} {D : Nat → Prop} (h : w.ownsRow B e 8 v ps.length (ps.flatMap cmpCells)) (hD : ∀ g, B ≤ g → D g) (hb : ∀ p ∈ ps, StmsIn w D p.2 p.1.body) :
    CmpsIn w D v (ps.map (·.1)) := by
  rcases h.2 with ⟨h1, h2⟩ | ⟨g, cap, cur, h1, h2, h3, h4, h5, h6, h7⟩
  · exact ⟨none, 0, by rw [h1]; simp [h2], by simp [h2], by unfold maxLen; omega, fun hx => absurd hx (by rw [List.length_map]; omega)⟩
  · subst h1
    refine ⟨_, cap, by simp, by simpa using h4, h5, fun _ => ⟨g, 0, rfl, hD g h2, (Array.getElem?_eq_some_iff.1 h3).1, fun i hi => ?_⟩⟩
    have hi' : i < ps.length := by simpa using hi
    refine ⟨ps[i].2, by simpa using hb _ (List.getElem_mem hi'), ?_⟩
    simpa using (own8 h i hi').1
end Go.Proofs.Ytomdmkhgkaalnaa.Nm
namespace Go.Proofs.Ytomdmkhgkaalnaa
open Go.RowKit Go.ChangeShapes Go.WideShapes Go.Deep Go.Proofs.Ytomdmkhgkaalnaa.Nm

def cmpCost (c : Cmp) : Nat := c.module.length + stmsCost c.body
def cmpsCost (cs : List Cmp) : Nat := cs.length + (cs.map cmpCost).sum
def cmpsCost' (cs : List Cmp) : Prop := cs.length ≤ 1048576 ∧ ∀ c ∈ cs, c.body.length ≤ 1048576
theorem shortC_of {c : Cmp} {B : Nat} (h : cmpCost c ≤ B) : ShortC B c := by
  have e : cmpCost c = c.module.length + stmsCost c.body := rfl
  exact ⟨by omega, short_of (by omega)⟩
theorem shortCs_of {cs : List Cmp} {B : Nat} (h : cmpsCost cs ≤ B) : ShortCs B cs := fun c hc => by
  have := mem_sum cmpCost hc
  unfold cmpsCost at h
  exact shortC_of (by omega)
theorem shortC_mono {A B : Nat} (h : A ≤ B) {c : Cmp} (hs : ShortC A c) : ShortC B c := ⟨Nat.le_trans hs.1 h, short_mono h hs.2⟩
theorem shortCs_mono {A B : Nat} (h : A ≤ B) {cs : List Cmp} (hs : ShortCs A cs) : ShortCs B cs := fun c hc => shortC_mono h (hs c hc)
theorem cmpBody_of {c : Cmp} (h : cmpCost c ≤ 1048576) : c.body.length ≤ 1048576 := by
  have e : cmpCost c = c.module.length + stmsCost c.body := rfl
  have e2 : stmsCost c.body = c.body.length + (c.body.map stmCost).sum := rfl
  omega
theorem cmpCosts_of {cs : List Cmp} (h : cmpsCost cs ≤ 1048576) : cmpsCost' cs := by
  unfold cmpsCost at h
  refine ⟨by omega, fun c hc => ?_⟩
  have := mem_sum cmpCost hc
  exact cmpBody_of (by omega)
def sameCmp (a b : Cmp) : Bool := decide (a = b)
def sameCmps (a b : List Cmp) : Bool := decide (a = b)

set_option maxRecDepth 100000 in
set_option maxHeartbeats 1000000 in
theorem laws_szCompiled (x0 : Int) (x1 : Bs) (x2 : Bool) (x3 : Int) (x4 : Int) (x5 : Int) (x6 : Int) (bv : Value) (fb : List Stm) (D : Nat → Prop) (left : Nat) (w : World) (hp : x1.length ≤ maxLen) (hr : StmsIn w D bv fb) (hz : Short maxLen fb) (hl : left ≤ 1048576) :
    Calls Try.prog 56 #[.agg #[.int .i64 x0, .string (mk x1), .bool x2, .int .i64 x3, .int .i64 x4, .int .i64 x5, .int .i64 x6, bv], .int .i64 left] w (SzB (cmpCost ⟨x0, x1, x2, x3, x4, x5, x6, fb⟩) left w) := by
  unfold maxLen at hp
  have Hr := Lib.hid hr
  have Hz := Lib.hid hz
  obtain ⟨aa, ca, rfl, hlc, hm⟩ := hr.len
  have Hc := Lib.hid (show cmpCost ⟨x0, x1, x2, x3, x4, x5, x6, fb⟩ = x1.length + stmsCost fb from rfl)
  clear hr hz hm
  by_cases h1 : (left : Int) - (x1.length : Int) < 0
  · go_enter Try.func56, Try.ntmps56
    go_wp2_with fail
    go_ret
    exact ⟨-1, rfl, .inr rfl, by (repeat (with_reducible first | exact Below.refl _ _ | assumption | refine ba ?_ _ | refine bd ?_ | refine bdN ?_ _ | refine bs ?_ (by first | exact Nat.le_refl _ | (dsimp only; omega) | (simp; done)) _ | refine bt ?_ (by assumption)))⟩
  · obtain ⟨L, hL⟩ : ∃ L : Nat, (left : Int) - (x1.length : Int) = (L : Int) := ⟨left - x1.length, by omega⟩
    have hLl : L ≤ 1048576 := by omega
    have HL := Lib.hid hL
    go_enter Try.func56, Try.ntmps56
    go_wp2_with (go_at_call 112; refine (laws_szStmtS _ fb D L _ (Hr.out.below (by (repeat (with_reducible first | exact Below.refl _ _ | assumption | refine ba ?_ _ | refine bd ?_ | refine bdN ?_ _ | refine bs ?_ (by first | exact Nat.le_refl _ | (dsimp only; omega) | (simp; done)) _ | refine bt ?_ (by assumption))))) Hz.out hLl).mono ?_; rintro _ _ ⟨r, rfl, hr, hb2⟩; obtain ⟨hc, hf, hs⟩ := bcell hb2)
    · go_ret
      exact ⟨-1, rfl, .inr rfl, by (repeat (with_reducible first | exact Below.refl _ _ | assumption | refine ba ?_ _ | refine bd ?_ | refine bdN ?_ _ | refine bs ?_ (by first | exact Nat.le_refl _ | (dsimp only; omega) | (simp; done)) _ | refine bt ?_ (by assumption)))⟩
    · go_ret
      refine ⟨_, rfl, ?_, by (repeat (with_reducible first | exact Below.refl _ _ | assumption | refine ba ?_ _ | refine bd ?_ | refine bdN ?_ _ | refine bs ?_ (by first | exact Nat.le_refl _ | (dsimp only; omega) | (simp; done)) _ | refine bt ?_ (by assumption)))⟩
      rw [Hc.out]
      rcases hr with ⟨hr0, hr1⟩ | hr1
      · exact .inl ⟨by omega, by omega⟩
      · exact .inr hr1

set_option maxRecDepth 100000 in
set_option maxHeartbeats 1000000 in
theorem laws_szCompiledS (v : Value) (fs : List Cmp) (D : Nat → Prop) (left : Nat) (w : World) (hr : CmpsIn w D v fs) (hz : ShortCs maxLen fs) (hl : left ≤ 1048576) :
    Calls Try.prog 14 #[v, .int .i64 left] w (SzB (cmpsCost fs) left w) := by
  have Hr := Lib.hid hr
  have Hz := Lib.hid hz
  obtain ⟨aa, ca, rfl, hlc, hm⟩ := hr.len
  unfold maxLen at hm
  clear hr hz
  by_cases h0 : (left : Int) - (fs.length : Int) < 0
  · go_enter Try.func14, Try.ntmps14
    go_wp2_with fail
    go_ret
    exact ⟨-1, rfl, .inr rfl, by (repeat (with_reducible first | exact Below.refl _ _ | assumption | refine ba ?_ _ | refine bd ?_ | refine bdN ?_ _ | refine bs ?_ (by first | exact Nat.le_refl _ | (dsimp only; omega) | (simp; done)) _ | refine bt ?_ (by assumption)))⟩
  · have hw : (left : Int) - (fs.length : Int) = ((left - fs.length : Nat) : Int) := by omega
    go_enter Try.func14, Try.ntmps14
    go_wp2_with fail
    go_loopw [1, 5] (fun lv iv wr => ∃ (i L : Nat), i ≤ fs.length ∧ iv = .int .i64 i ∧ lv = .int .i64 L ∧ L + (fs.length + ((fs.take i).map cmpCost).sum) ≤ left ∧ Below w.heap.size w wr) (fun _ iv _ => fs.length - (intOf iv).toNat)
    case atStart => exact ⟨0, left - fs.length, by omega, rfl, by first | rfl | go_num | simp [hw], by simp; omega, Below.refl _ _⟩
    case round =>
      obtain ⟨i, L, hi, rfl, rfl, hL, hbel⟩ := hrel
      have HL := Lib.hid hL
      have hLl : L ≤ 1048576 := by omega
      clear hL h0 hw
      by_cases hlt : i < fs.length
      · obtain ⟨b, off, cap, bv, e, hD, hb, hbody, c0, c1, c2, c3, c4, c5, c6, c7⟩ := (Hr.out.below hbel).at_ hlt
        simp only [Value.slice.injEq] at e
        obtain ⟨rfl, _, rfl⟩ := e
        obtain ⟨ba', bc', rfl, hbl, hbm⟩ := hbody.len
        obtain ⟨z1, z3⟩ := Hz.out _ (List.getElem_mem hlt)
        have Hz3 := Lib.hid z3
        have Hbody := Lib.hid hbody
        have Hs := Lib.hid (sum_snoc cmpCost fs i hlt)
        obtain ⟨f, hf⟩ : ∃ f, f = fs[i] := ⟨_, rfl⟩
        rw [← hf] at c0 c1 c2 c3 c4 c5 c6 c7 z1 Hz3 Hs Hbody
        clear hf hbody hbm hbl z3
        obtain ⟨x0, x1, x2, x3, x4, x5, x6, fb⟩ := f
        dsimp only at c0 c1 c2 c3 c4 c5 c6 c7 z1
        go_wp2_with (go_at_call 56; refine (laws_szCompiled _ _ _ _ _ _ _ _ fb D L _ z1 (Hbody.out.below (by (repeat (with_reducible first | exact Below.refl _ _ | assumption | refine ba ?_ _ | refine bd ?_ | refine bdN ?_ _ | refine bs ?_ (by first | exact Nat.le_refl _ | (dsimp only; omega) | (simp; done)) _ | refine bt ?_ (by assumption))))) Hz3.out hLl).mono ?_; rintro _ _ ⟨r, rfl, hr, hb2⟩; obtain ⟨hc, hf, hs⟩ := bcell hb2)
        · have h : r < 0 := by assumption
          go_ret
          exact ⟨-1, rfl, .inr rfl, by (repeat (with_reducible first | exact Below.refl _ _ | assumption | refine ba ?_ _ | refine bd ?_ | refine bdN ?_ _ | refine bs ?_ (by first | exact Nat.le_refl _ | (dsimp only; omega) | (simp; done)) _ | refine bt ?_ (by assumption)))⟩
        · rcases hr with ⟨hr0, hr1⟩ | hr1
          · obtain ⟨R, rfl⟩ := Int.eq_ofNat_of_zero_le hr0
            go_roundw
            case rel => exact ⟨i + 1, R, by omega, by go_num, rfl, by have h1 := HL.out; have h2 := Hs.out; omega, by (repeat (with_reducible first | exact Below.refl _ _ | assumption | refine ba ?_ _ | refine bd ?_ | refine bdN ?_ _ | refine bs ?_ (by first | exact Nat.le_refl _ | (dsimp only; omega) | (simp; done)) _ | refine bt ?_ (by assumption)))⟩
            case measure => simp [intOf]; omega
          · exact absurd hr1 (by omega)
      · obtain rfl : i = fs.length := by omega
        have Hf := Lib.hid (show L + cmpsCost fs ≤ left by have := HL.out; rw [List.take_length] at this; exact this)
        go_wp2_with fail
        go_ret
        exact ⟨L, rfl, .inl ⟨by omega, by have := Hf.out; omega⟩, hbel⟩

def cmpV (p : Cmp × Value) : Value := .agg #[.int .i64 p.1.root, .string (mk p.1.module), .bool p.1.init, .int .i64 p.1.mode, .int .i64 p.1.stamp, .int .i64 p.1.size, .int .i64 p.1.hash, p.2]
/-- What a function that returns something compiled with a new body comes to. -/
def NewCmp (f : Cmp) (w : World) (e : Ending) (w' : World) : Prop :=
  ∃ bv, e = .returned (cmpV (f, bv)) ∧ w'.ownsRow w.heap.size 124 5 bv f.body.length (f.body.flatMap stmCells) ∧ Below w.heap.size w w'
set_option maxRecDepth 100000 in
set_option maxHeartbeats 1000000 in
theorem laws_toCompiled (x0 : Int) (x1 : Bs) (x2 : Bool) (x3 : Int) (x4 : Int) (x5 : Int) (x6 : Int) (bv : Value) (fb : List Stm) (D : Nat → Prop) (w : World) (hr : StmsIn w D bv fb) (hl : fb.length ≤ 1048576) :
    Calls Try.prog 62 #[.agg #[.int .i64 x0, .string (mk x1), .bool x2, .int .i64 x3, .int .i64 x4, .int .i64 x5, .int .i64 x6, bv]] w (NewCmp ⟨x0, x1, x2, x3, x4, x5, x6, fb⟩ w) := by
  have Hr := Lib.hid hr
  obtain ⟨aa, ca, rfl, hlc, hm⟩ := hr.len
  unfold maxLen at hm
  clear hr
  go_enter Try.func62, Try.ntmps62
  go_wp2_with (go_at_call 120; refine (laws_toStmtS _ fb D _ (Hr.out.below (by (repeat (with_reducible first | exact Below.refl _ _ | assumption | refine ba ?_ _ | refine bd ?_ | refine bdN ?_ _ | refine bs ?_ (by first | exact Nat.le_refl _ | (dsimp only; omega) | (simp; done)) _ | refine bt ?_ (by assumption))))) hl).mono ?_; rintro _ w5 ⟨v5, rfl, hown5, hb5⟩; obtain ⟨hc, hf, hs⟩ := bcell hb5; have Hown5 := Lib.hid hown5; obtain ⟨a5, c5, hv5⟩ := owns_shape hown5; clear hown5; subst hv5)
  refine bodyPost_ret (v := cmpV (⟨x0, x1, x2, x3, x4, x5, x6, fb⟩, .slice a5 fb.length c5)) (by simp [results, Try.results62, go_sem, cmpV, hc, hs]) rfl ⟨_, rfl, ?_, by (repeat (with_reducible first | exact Below.refl _ _ | assumption | refine ba ?_ _ | refine bd ?_ | refine bdN ?_ _ | refine bs ?_ (by first | exact Nat.le_refl _ | (dsimp only; omega) | (simp; done)) _ | refine bt ?_ (by assumption)))⟩
  refine owns_mono (B := w.heap.size + 3) ?_ (by omega)
  (repeat (with_reducible first | refine World.ownsRow.alloc ?_ _ | refine owns_set_low ?_ (by first | (dsimp only; omega) | (simp; done) | (simp; omega)) _))
  exact owns_mono Hown5.out (by simp)

theorem infoCmp : (Try.prog.info? 53).map (fun i => (i.zero, i.size, i.bytes)) = some (some (.agg #[.int .i64 0, .string ByteArray.empty, .bool false, .int .i64 0, .int .i64 0, .int .i64 0, .int .i64 0, .slice none 0 0]), 8, 88) := by kernel_rfl
def OwnCmpBodies (w : World) (B : Nat) (ps : List (Cmp × Value)) : Prop :=
  (∀ p ∈ ps, w.ownsRow B 124 5 p.2 p.1.body.length (p.1.body.flatMap stmCells)) ∧ ps.Pairwise (fun p q => ∀ b, p.2.ownBlock = some b → q.2.ownBlock ≠ some b)
/-- The slice v and the bodies of what it has are rows of the call's own. -/
def OwnCmps (w : World) (B : Nat) (v : Value) (ps : List (Cmp × Value)) : Prop :=
  w.ownsRow B 53 8 v ps.length (ps.flatMap cmpCells) ∧ OwnCmpBodies w B ps
theorem OwnCmpBodies.nil (w : World) (B : Nat) : OwnCmpBodies w B [] := ⟨by simp, List.Pairwise.nil⟩
theorem OwnCmpBodies.heap {w w' : World} {B : Nat} {ps : List (Cmp × Value)} (h : OwnCmpBodies w B ps) (hk : ∀ b, B ≤ b → b < w.heap.size → (∃ p ∈ ps, p.2.ownBlock = some b) → w'.heap[b]? = w.heap[b]?) : OwnCmpBodies w' B ps :=
  ⟨fun p hp => owns_heap (h.1 p hp) (fun b hb => hk b (owns_block (h.1 p hp) hb).1 (owns_block (h.1 p hp) hb).2 ⟨p, hp, hb⟩), h.2⟩
theorem OwnCmpBodies.below {w w' : World} {B : Nat} {ps : List (Cmp × Value)} (h : OwnCmpBodies w B ps) (hb : Below w.heap.size w w') : OwnCmpBodies w' B ps := h.heap (fun b _ hlt _ => hb.block b hlt)
theorem OwnCmpBodies.mono {w : World} {B B' : Nat} {ps : List (Cmp × Value)} (h : OwnCmpBodies w B ps) (hB : B' ≤ B) : OwnCmpBodies w B' ps := ⟨fun p hp => owns_mono (h.1 p hp) hB, h.2⟩
theorem OwnCmpBodies.set_low {w : World} {B : Nat} {ps : List (Cmp × Value)} (h : OwnCmpBodies w B ps) {p : Addr} (hp : p.block < B) (u : Value) : OwnCmpBodies (w.setCell p u) B ps :=
  h.heap (fun b hb _ _ => Below.heap_setCell w p u b (by omega))
theorem OwnCmpBodies.snoc {w w' : World} {B : Nat} {ps : List (Cmp × Value)} {q : Cmp × Value} (h : OwnCmpBodies w B ps) (hb : Below w.heap.size w w') (hB : B ≤ w.heap.size)
    (hq : w'.ownsRow w.heap.size 124 5 q.2 q.1.body.length (q.1.body.flatMap stmCells)) : OwnCmpBodies w' B (ps ++ [q]) := by
  refine ⟨fun p hp => ?_, ?_⟩
  · rcases List.mem_append.1 hp with hp | hp
    · exact (h.below hb).1 p hp
    · simp at hp; subst hp; exact owns_mono hq hB
  · rw [List.pairwise_append]
    refine ⟨h.2, by simp, fun p hp x hx b hpb => ?_⟩
    simp at hx; subst hx
    intro hxb
    have h1 := owns_block (h.1 p hp) hpb
    have h2 := owns_block hq hxb
    omega
theorem OwnCmpBodies.stms {w : World} {B : Nat} {ps : List (Cmp × Value)} (h : OwnCmpBodies w B ps) {D : Nat → Prop} (hD : ∀ g, B ≤ g → D g) : ∀ p ∈ ps, StmsIn w D p.2 p.1.body := fun p hp => StmsIn.of_owns (h.1 p hp) hD
theorem OwnCmps.fils {w : World} {B : Nat} {v : Value} {ps : List (Cmp × Value)} (h : OwnCmps w B v ps) {D : Nat → Prop} (hD : ∀ g, B ≤ g → D g) : CmpsIn w D v (ps.map (·.1)) := CmpsIn.of_owns h.1 hD (h.2.stms hD)
theorem OwnCmps.below {w w' : World} {B : Nat} {v : Value} {ps : List (Cmp × Value)} (h : OwnCmps w B v ps) (hb : Below w.heap.size w w') : OwnCmps w' B v ps := ⟨owns_below h.1 hb, h.2.below hb⟩
theorem OwnCmps.mono {w : World} {B B' : Nat} {v : Value} {ps : List (Cmp × Value)} (h : OwnCmps w B v ps) (hB : B' ≤ B) : OwnCmps w B' v ps := ⟨owns_mono h.1 hB, h.2.mono hB⟩
theorem OwnCmps.set_low {w : World} {B : Nat} {v : Value} {ps : List (Cmp × Value)} (h : OwnCmps w B v ps) {p : Addr} (hp : p.block < B) (u : Value) : OwnCmps (w.setCell p u) B v ps := ⟨owns_set_low h.1 hp u, h.2.set_low hp u⟩
theorem OwnCmps.len {w : World} {B : Nat} {v : Value} {ps : List (Cmp × Value)} (h : OwnCmps w B v ps) : ∃ a cap, v = .slice a ps.length cap := owns_shape h.1
/-- The slice v and the bodies of what it has are rows of the call's own; two of them may share a body. -/
def RowsC8 (w : World) (B : Nat) (v : Value) (ps : List (Cmp × Value)) : Prop :=
  w.ownsRow B 53 8 v ps.length (ps.flatMap cmpCells) ∧ ((∀ p ∈ ps, w.ownsRow B 124 5 p.2 p.1.body.length (p.1.body.flatMap stmCells)) ∧ True)
theorem OwnCmps.rows {w : World} {B : Nat} {v : Value} {ps : List (Cmp × Value)} (h : OwnCmps w B v ps) : RowsC8 w B v ps := ⟨h.1, h.2.1, trivial⟩
theorem RowsC8.below {w w' : World} {B : Nat} {v : Value} {ps : List (Cmp × Value)} (h : RowsC8 w B v ps) (hb : Below w.heap.size w w') : RowsC8 w' B v ps := ⟨owns_below h.1 hb, fun p hp => owns_below (h.2.1 p hp) hb, trivial⟩
theorem RowsC8.mono {w : World} {B B' : Nat} {v : Value} {ps : List (Cmp × Value)} (h : RowsC8 w B v ps) (hB : B' ≤ B) : RowsC8 w B' v ps := ⟨owns_mono h.1 hB, fun p hp => owns_mono (h.2.1 p hp) hB, trivial⟩
theorem RowsC8.fils {w : World} {B : Nat} {v : Value} {ps : List (Cmp × Value)} (h : RowsC8 w B v ps) {D : Nat → Prop} (hD : ∀ g, B ≤ g → D g) : CmpsIn w D v (ps.map (·.1)) := CmpsIn.of_owns h.1 hD (fun p hp => StmsIn.of_owns (h.2.1 p hp) hD)
theorem RowsC8.len {w : World} {B : Nat} {v : Value} {ps : List (Cmp × Value)} (h : RowsC8 w B v ps) : ∃ a cap, v = .slice a ps.length cap := owns_shape h.1
/-- What a function that returns a new store comes to. -/
def NewCmps (fs : List Cmp) (w : World) (e : Ending) (w' : World) : Prop :=
  ∃ v ps, e = .returned v ∧ ps.map (·.1) = fs ∧ OwnCmps w' w.heap.size v ps ∧ Below w.heap.size w w'
theorem zipFillCmp {fs : List Cmp} {ps : List (Cmp × Value)} {i : Nat} (h : ps.map (·.1) = fs.take i) (hi : i ≤ fs.length) : ps.length = i := by
  have := congrArg List.length h
  simp at this; omega
theorem fill_putCmp (ps : List (Cmp × Value)) (z q : Cmp × Value) (n : Nat) (h : 0 < n) : (ps ++ List.replicate n z).set ps.length q = ps ++ [q] ++ List.replicate (n - 1) z := by
  rw [List.set_append_right _ _ (Nat.le_refl _), Nat.sub_self, show n = (n - 1) + 1 by omega, List.replicate_succ, List.set_cons_zero, List.append_assoc]
  rfl
set_option maxRecDepth 100000 in
set_option maxHeartbeats 1000000 in
theorem laws_toCompiledS (v : Value) (fs : List Cmp) (D : Nat → Prop) (w : World) (hr : CmpsIn w D v fs) (hl : cmpsCost' fs) :
    Calls Try.prog 17 #[v] w (NewCmps fs w) := by
  obtain ⟨i0, hi, hz0, hz1, hz2⟩ := info_parts infoCmp
  have Hr := Lib.hid hr
  obtain ⟨aa, ca, rfl, hlc, hm⟩ := hr.len
  unfold maxLen at hm
  have hlen := hl.1
  have Hl := Lib.hid hl.2
  have Hi := Lib.hid hi
  have Hz0 := Lib.hid hz0
  have Hz1 := Lib.hid hz1
  have Hz2 := Lib.hid hz2
  clear hr hi hz0 hz1 hz2 hl
  go_enter Try.func17, Try.ntmps17
  go_wp2_with (at_make; refine wpList_make_full _ rfl _ _ 28 rfl w.heap.size 53 i0 _ 8 Try.underlying28 Hi.out Hz0.out Hz1.out .i64 .i64 _ _ fs.length rfl rfl rfl rfl (by rw [Hz2.out]; omega) (by unfold maxLen; omega) (Nat.le_refl _) ?_; intro w1 hown1 hg1)
  have hown2 : w1.ownsRow w.heap.size 53 8 (.slice (some ⟨w.heap.size, 0, none⟩) fs.length fs.length) fs.length ((([] : List (Cmp × Value)) ++ List.replicate (fs.length - 0) zeroCmp).flatMap cmpCells) := by
    have e := made8 fs.length
    simp only [List.nil_append, Nat.sub_zero]
    rw [← e]; exact hown1
  have hb1 : Below w.heap.size w w1 := (Below.refl _ _).grown hg1 (Nat.le_refl _) (fun k hk => by cases hk)
  have hz1 : w.heap.size < w1.heap.size := by
    rcases hown2.2 with ⟨h, _⟩ | ⟨g, cap, cur, h1, _, h3, _⟩
    · cases h
    · simp only [Value.slice.injEq, Option.some.injEq, Addr.mk.injEq] at h1
      obtain ⟨⟨rfl, _⟩, _⟩ := h1
      exact (Array.getElem?_eq_some_iff.1 h3).1
  have Hown2 := Lib.hid hown2
  have Hb1 := Lib.hid hb1
  clear hown1 hown2 hg1 hb1
  go_wp2_with fail
  go_loopw [4] (fun iv wr => ∃ (i : Nat) (ps : List (Cmp × Value)), i ≤ fs.length ∧ iv = .int .i64 i ∧ ps.map (·.1) = fs.take i ∧ wr.ownsRow w.heap.size 53 8 (.slice (some ⟨w.heap.size, 0, none⟩) fs.length fs.length) fs.length ((ps ++ List.replicate (fs.length - i) zeroCmp).flatMap cmpCells) ∧ OwnCmpBodies wr (w.heap.size + 1) ps ∧ Below w.heap.size w wr ∧ w.heap.size < wr.heap.size) (fun iv _ => fs.length - (intOf iv).toNat)
  case atStart => exact ⟨0, [], by omega, rfl, rfl, Hown2.out, OwnCmpBodies.nil _ _, Hb1.out, hz1⟩
  case round =>
    obtain ⟨i, ps, hi, rfl, hps, ho, hbo, hbel, hsz⟩ := hrel
    have Ho := Lib.hid ho
    have Hps := Lib.hid hps
    have Hbo := Lib.hid hbo
    have Hpl := Lib.hid (zipFillCmp hps hi)
    clear ho hps hbo Hown2 Hb1 hz1
    by_cases hlt : i < fs.length
    · obtain ⟨b, off, cap, bv, e, hD, hb, hbody, c0, c1, c2, c3, c4, c5, c6, c7⟩ := (Hr.out.below hbel).at_ hlt
      simp only [Value.slice.injEq] at e
      obtain ⟨rfl, _, rfl⟩ := e
      obtain ⟨ba', bc', rfl, hbl, hbm⟩ := hbody.len
      have Hbody := Lib.hid hbody
      have Hbl := Lib.hid (Hl.out _ (List.getElem_mem hlt))
      have Hsn := Lib.hid (List.take_succ_eq_append_getElem hlt)
      obtain ⟨f, hf⟩ : ∃ f, f = fs[i] := ⟨_, rfl⟩
      rw [← hf] at c0 c1 c2 c3 c4 c5 c6 c7 Hbody Hbl Hsn
      clear hf hbody hbm hbl
      obtain ⟨x0, x1, x2, x3, x4, x5, x6, fb⟩ := f
      dsimp only at c0 c1 c2 c3 c4 c5 c6 c7
      have hrow : i < (ps ++ List.replicate (fs.length - i) zeroCmp).length := by simp [Hpl.out]; omega
      have Hrow := Lib.hid hrow
      clear hrow
      go_wp2_with (go_at_call 62; refine (laws_toCompiled _ _ _ _ _ _ _ _ fb D _ (Hbody.out.below (by (repeat (with_reducible first | exact Below.refl _ _ | assumption | refine ba ?_ _ | refine bd ?_ | refine bdN ?_ _ | refine bs ?_ (by first | exact Nat.le_refl _ | (dsimp only; omega) | (simp; done)) _ | refine bt ?_ (by assumption))))) Hbl.out).mono ?_; rintro _ w5 ⟨v5, rfl, hown5, hb5⟩; have Hown5 := Lib.hid hown5; obtain ⟨a5, e5, hv5⟩ := owns_shape hown5; clear hown5; subst hv5; have ho5 := Lib.hid (owns_below Ho.out hb5); obtain ⟨⟨d0, d1, d2, d3, d4, d5, d6, d7⟩, g0, g1, g2, g3, g4, g5, g6, g7⟩ := own8 ho5.out i Hrow.out; unfold cmpV; dsimp only)
      have Hb6 := Lib.hid (show Below w.heap.size w w5 by (repeat (with_reducible first | exact Below.refl _ _ | assumption | refine ba ?_ _ | refine bd ?_ | refine bdN ?_ _ | refine bs ?_ (by first | exact Nat.le_refl _ | (dsimp only; omega) | (simp; done)) _ | refine bt ?_ (by assumption))))
      have Hput := Lib.hid (own8_put ho5.out i Hrow.out (⟨x0, x1, x2, x3, x4, x5, x6, fb⟩, .slice a5 fb.length e5))
      have Hps2 := Lib.hid (show (ps ++ [((⟨x0, x1, x2, x3, x4, x5, x6, fb⟩ : Cmp), Value.slice a5 fb.length e5)]).map (·.1) = fs.take (i + 1) by rw [List.map_append, Hps.out, Hsn.out]; rfl)
      have Hbo2 := Lib.hid (OwnCmpBodies.snoc (q := ((⟨x0, x1, x2, x3, x4, x5, x6, fb⟩ : Cmp), Value.slice a5 fb.length e5)) Hbo.out hb5 (show w.heap.size + 1 ≤ wr.heap.size by omega) Hown5.out)
      have hfp := fill_putCmp ps zeroCmp (⟨x0, x1, x2, x3, x4, x5, x6, fb⟩, .slice a5 fb.length e5) (fs.length - i) (by omega)
      rw [Hpl.out] at hfp
      rw [hfp, show fs.length - i - 1 = fs.length - (i + 1) by omega] at Hput
      have hs5 := hb5.size
      have Hs5 := Lib.hid (show w.heap.size < w5.heap.size by omega)
      clear hfp hs5
      go_roundw
      case rel =>
        refine ⟨i + 1, ps ++ [((⟨x0, x1, x2, x3, x4, x5, x6, fb⟩ : Cmp), Value.slice a5 fb.length e5)], by omega, by go_num, Hps2.out, Hput.out, ?_, ?_, ?_⟩
        · exact ((((((((Hbo2.out.set_low (by dsimp only; omega) _).set_low (by dsimp only; omega) _).set_low (by dsimp only; omega) _).set_low (by dsimp only; omega) _).set_low (by dsimp only; omega) _).set_low (by dsimp only; omega) _).set_low (by dsimp only; omega) _).set_low (by dsimp only; omega) _)
        · have h6 := Hb6.out
          (repeat (with_reducible first | exact Below.refl _ _ | assumption | refine ba ?_ _ | refine bd ?_ | refine bdN ?_ _ | refine bs ?_ (by first | exact Nat.le_refl _ | (dsimp only; omega) | (simp; done)) _ | refine bt ?_ (by assumption)))
        · have := Hs5.out
          simpa using this
      case measure => simp [intOf]; omega
    · obtain rfl : i = fs.length := by omega
      have Hmap := Lib.hid (show ps.map (·.1) = fs by rw [Hps.out, List.take_length])
      have Ho2 := Lib.hid (show OwnCmps wr w.heap.size (.slice (some ⟨w.heap.size, 0, none⟩) fs.length fs.length) ps from ⟨by have := Ho.out; rw [Hpl.out]; simpa using this, Hbo.out.mono (by omega)⟩)
      go_wp2_with fail
      go_ret
      exact ⟨_, ps, rfl, Hmap.out, Ho2.out, hbel⟩

set_option maxRecDepth 100000 in
set_option maxHeartbeats 1000000 in
theorem laws_eqCompiled (x0 : Int) (x1 : Bs) (x2 : Bool) (x3 : Int) (x4 : Int) (x5 : Int) (x6 : Int) (bv : Value) (fb : List Stm) (x0' : Int) (x1' : Bs) (x2' : Bool) (x3' : Int) (x4' : Int) (x5' : Int) (x6' : Int) (bv' : Value) (fb' : List Stm) (D D' : Nat → Prop) (w : World) (hr : StmsIn w D bv fb) (hr' : StmsIn w D' bv' fb') :
    Calls Try.prog 69 #[.agg #[.int .i64 x0, .string (mk x1), .bool x2, .int .i64 x3, .int .i64 x4, .int .i64 x5, .int .i64 x6, bv], .agg #[.int .i64 x0', .string (mk x1'), .bool x2', .int .i64 x3', .int .i64 x4', .int .i64 x5', .int .i64 x6', bv']] w
      fun e w' => e = .returned (.bool (sameCmp ⟨x0, x1, x2, x3, x4, x5, x6, fb⟩ ⟨x0', x1', x2', x3', x4', x5', x6', fb'⟩)) ∧ Below w.heap.size w w' := by
  have Hr := Lib.hid hr
  have Hr' := Lib.hid hr'
  obtain ⟨aa, ca, rfl, hl, hm⟩ := hr.len
  obtain ⟨aa', ca', rfl, hl', hm'⟩ := hr'.len
  unfold maxLen at hm hm'
  clear hr hr'
  go_enter Try.func69, Try.ntmps69
  go_wp2_with (go_at_call 124; refine (laws_eqStmtS _ _ fb fb' D D' _ (Hr.out.below (by (repeat (with_reducible first | exact Below.refl _ _ | assumption | refine ba ?_ _ | refine bd ?_ | refine bdN ?_ _ | refine bs ?_ (by first | exact Nat.le_refl _ | (dsimp only; omega) | (simp; done)) _ | refine bt ?_ (by assumption))))) (Hr'.out.below (by (repeat (with_reducible first | exact Below.refl _ _ | assumption | refine ba ?_ _ | refine bd ?_ | refine bdN ?_ _ | refine bs ?_ (by first | exact Nat.le_refl _ | (dsimp only; omega) | (simp; done)) _ | refine bt ?_ (by assumption)))))).mono ?_; (rintro _ _ ⟨rfl, hb⟩; obtain ⟨hc, hf, hs⟩ := bcell hb))
  all_goals (go_ret; refine ⟨ret_bool ?_, by (repeat (with_reducible first | exact Below.refl _ _ | assumption | refine ba ?_ _ | refine bd ?_ | refine bdN ?_ _ | refine bs ?_ (by first | exact Nat.le_refl _ | (dsimp only; omega) | (simp; done)) _ | refine bt ?_ (by assumption)))⟩; simp_all [sameCmp, sameStms, beq_bs', beq_dec, bne_bs, bne_int])

theorem sameCmps_no {a b : List Cmp} {k : Nat} (h1 : k < a.length) (h2 : k < b.length) (h : sameCmp a[k] b[k] = false) : sameCmps a b = false :=
  decide_eq_false (fun e => by subst e; exact of_decide_eq_false h rfl)
set_option maxRecDepth 100000 in
set_option maxHeartbeats 1000000 in
theorem laws_eqCompiledS (v v' : Value) (fs fs' : List Cmp) (D D' : Nat → Prop) (w : World) (hr : CmpsIn w D v fs) (hr' : CmpsIn w D' v' fs') :
    Calls Try.prog 20 #[v, v'] w fun e w' => e = .returned (.bool (sameCmps fs fs')) ∧ Below w.heap.size w w' := by
  have Hr := Lib.hid hr
  have Hr' := Lib.hid hr'
  obtain ⟨aa, ca, rfl, hl, hm⟩ := hr.len
  obtain ⟨aa', ca', rfl, hl', hm'⟩ := hr'.len
  unfold maxLen at hm hm'
  clear hr hr'
  by_cases he : fs.length = fs'.length
  · have He := Lib.hid he
    rw [← he]
    rw [← he] at Hr'
    clear he
    go_enter Try.func20, Try.ntmps20
    go_wp2_with fail
    go_loopw [5] (fun iv wr => ∃ k : Nat, k ≤ fs.length ∧ iv = .int .i64 k ∧ Below w.heap.size w wr ∧ ∀ i (h1 : i < fs.length) (h2 : i < fs'.length), i < k → fs[i] = fs'[i]) (fun iv _ => fs.length - (intOf iv).toNat)
    case atStart => exact ⟨0, by omega, rfl, Below.refl _ _, fun i _ _ h => absurd h (by omega)⟩
    case round =>
      obtain ⟨k, hk, rfl, hbel, ha⟩ := hrel
      have Ha := Lib.hid ha
      clear ha
      by_cases hlt : k < fs.length
      · have hlt' : k < fs'.length := by rw [← He.out]; exact hlt
        obtain ⟨b, off, cap, bv, e, hD, hb, hbody, c0, c1, c2, c3, c4, c5, c6, c7⟩ := (Hr.out.below hbel).at_ hlt
        obtain ⟨b', off', cap', bv', e', hD', hb', hbody', c0', c1', c2', c3', c4', c5', c6', c7'⟩ := (CmpsIn.below (v := .slice aa' fs'.length ca') (by have := Hr'.out; rwa [He.out] at this) hbel).at_ hlt'
        simp only [Value.slice.injEq] at e e'
        obtain ⟨rfl, _, rfl⟩ := e
        obtain ⟨rfl, _, rfl⟩ := e'
        obtain ⟨ba1, bc1, rfl, _, _⟩ := hbody.len
        obtain ⟨ba2, bc2, rfl, _, _⟩ := hbody'.len
        have Hbody := Lib.hid hbody
        have Hbody' := Lib.hid hbody'
        have Hn := Lib.hid (sameCmps_no hlt hlt')
        obtain ⟨s, hs⟩ : ∃ s, s = fs[k] := ⟨_, rfl⟩
        obtain ⟨s', hs'⟩ : ∃ s', s' = fs'[k] := ⟨_, rfl⟩
        rw [← hs] at c0 c1 c2 c3 c4 c5 c6 c7 Hn Hbody
        rw [← hs'] at c0' c1' c2' c3' c4' c5' c6' c7' Hn Hbody'
        have Hy := Lib.hid (fun (h : sameCmp s s' = true) => (show fs[k] = fs'[k] by rw [← hs, ← hs']; exact of_decide_eq_true h))
        clear hs hs' hbody hbody'
        obtain ⟨x0, x1, x2, x3, x4, x5, x6, fb⟩ := s
        obtain ⟨x0', x1', x2', x3', x4', x5', x6', fb'⟩ := s'
        dsimp only at c0 c1 c2 c3 c4 c5 c6 c7 c0' c1' c2' c3' c4' c5' c6' c7'
        have hk1 : (k : Int) < (fs.length : Int) := by omega
        have hk0 : (0 : Int) ≤ (k : Int) := by omega
        go_wp2_with fail
        go_still_tail 8, (by kernel_rfl)
        go_wp2_with (go_at_call 69; refine (laws_eqCompiled _ _ _ _ _ _ _ _ fb _ _ _ _ _ _ _ _ fb' D D' _ (Hbody.out.below (by (repeat (with_reducible first | exact Below.refl _ _ | assumption | refine ba ?_ _ | refine bd ?_ | refine bdN ?_ _ | refine bs ?_ (by first | exact Nat.le_refl _ | (dsimp only; omega) | (simp; done)) _ | refine bt ?_ (by assumption))))) (Hbody'.out.below (by (repeat (with_reducible first | exact Below.refl _ _ | assumption | refine ba ?_ _ | refine bd ?_ | refine bdN ?_ _ | refine bs ?_ (by first | exact Nat.le_refl _ | (dsimp only; omega) | (simp; done)) _ | refine bt ?_ (by assumption)))))).mono ?_; (rintro _ _ ⟨rfl, hb⟩; obtain ⟨hc, hf, hs⟩ := bcell hb))
        · have h : (!sameCmp ⟨x0, x1, x2, x3, x4, x5, x6, fb⟩ ⟨x0', x1', x2', x3', x4', x5', x6', fb'⟩) = true := by assumption
          go_ret
          rw [Hn.out (by simpa using h)]
          exact ⟨rfl, by (repeat (with_reducible first | exact Below.refl _ _ | assumption | refine ba ?_ _ | refine bd ?_ | refine bdN ?_ _ | refine bs ?_ (by first | exact Nat.le_refl _ | (dsimp only; omega) | (simp; done)) _ | refine bt ?_ (by assumption)))⟩
        · have h : (!sameCmp ⟨x0, x1, x2, x3, x4, x5, x6, fb⟩ ⟨x0', x1', x2', x3', x4', x5', x6', fb'⟩) = false := by assumption
          go_roundw
          case rel =>
            refine ⟨k + 1, by omega, by go_num, by (repeat (with_reducible first | exact Below.refl _ _ | assumption | refine ba ?_ _ | refine bd ?_ | refine bdN ?_ _ | refine bs ?_ (by first | exact Nat.le_refl _ | (dsimp only; omega) | (simp; done)) _ | refine bt ?_ (by assumption))), fun i h1 h2 hi => ?_⟩
            by_cases e : i = k
            · subst e; exact Hy.out (by simpa using h)
            · exact Ha.out i h1 h2 (by omega)
          case measure => simp [intOf]; omega
      · have hv := Lib.hid (show sameCmps fs fs' = true from decide_eq_true (List.ext_getElem He.out (fun i h1 h2 => Ha.out i h1 h2 (by omega))))
        go_wp2_with fail
        go_ret
        rw [hv.out]
        exact ⟨rfl, hbel⟩
  · have Hv := Lib.hid (show sameCmps fs fs' = false from decide_eq_false (fun e => he (by rw [e])))
    have hlb : ((fs.length : Int) == (fs'.length : Int)) = false := by rw [beq_eq_false_iff_ne]; omega
    clear he
    generalize fs.length = p at *
    generalize fs'.length = q at *
    go_enter Try.func20, Try.ntmps20
    go_wp2_with fail
    go_ret
    rw [Hv.out]
    exact ⟨rfl, by (repeat (with_reducible first | exact Below.refl _ _ | assumption | refine ba ?_ _ | refine bd ?_ | refine bdN ?_ _ | refine bs ?_ (by first | exact Nat.le_refl _ | (dsimp only; omega) | (simp; done)) _ | refine bt ?_ (by assumption)))⟩

/-! ### What came in. -/
section
variable {H : Type} {enc : TypeId × Value → H} {w : World} {spare : Nat → Bool} {held : Bool}
theorem rcCmp : Try.prog.cellsOf 81 = 8 := by kernel_rfl
def cmpOf (d : Cmp) (nv : Value) : List Value := [.int .i64 d.root, .string (mk d.module), .bool d.init, .int .i64 d.mode, .int .i64 d.stamp, .int .i64 d.size, .int .i64 d.hash, nv]
set_option maxRecDepth 100000 in
theorem read_cmp {n : Nat} {cs : List Value} {x : DataW H × List MemPlace} (h : DataW.trod enc Try.prog w 0 spare held n 81 cs = some x) :
    ∃ (d : Cmp) (nv : Value), cs = cmpOf d nv ∧ StmsIn w (fun _ => True) nv d.body ∧ ShortC maxLen d := by
  obtain ⟨xs, m, _, _, hl, hxl, hf⟩ := DataW.trod_struct Try.underlying81 h
  rw [rcCmp] at hl
  match cs, hl with
  | [c0, c1, c2, c3, c4, c5, c6, c7], _ =>
    have hs : ∀ i, i < 8 → (xs[i]?).isSome = true := fun i hi => by rw [List.getElem?_eq_getElem (by rw [hxl]; exact hi)]; rfl
    have f0 : DataW.trod enc Try.prog w 0 spare held m 3 [c0] = xs[0]? := by have h' := hf 0 _ rfl; simpa [rcInt, rcText, rcBool, rcStms] using h'
    have f1 : DataW.trod enc Try.prog w 0 spare held m 9 [c1] = xs[1]? := by have h' := hf 1 _ rfl; simpa [rcInt, rcText, rcBool, rcStms] using h'
    have f2 : DataW.trod enc Try.prog w 0 spare held m 4 [c2] = xs[2]? := by have h' := hf 2 _ rfl; simpa [rcInt, rcText, rcBool, rcStms] using h'
    have f3 : DataW.trod enc Try.prog w 0 spare held m 3 [c3] = xs[3]? := by have h' := hf 3 _ rfl; simpa [rcInt, rcText, rcBool, rcStms] using h'
    have f4 : DataW.trod enc Try.prog w 0 spare held m 3 [c4] = xs[4]? := by have h' := hf 4 _ rfl; simpa [rcInt, rcText, rcBool, rcStms] using h'
    have f5 : DataW.trod enc Try.prog w 0 spare held m 3 [c5] = xs[5]? := by have h' := hf 5 _ rfl; simpa [rcInt, rcText, rcBool, rcStms] using h'
    have f6 : DataW.trod enc Try.prog w 0 spare held m 3 [c6] = xs[6]? := by have h' := hf 6 _ rfl; simpa [rcInt, rcText, rcBool, rcStms] using h'
    have f7 : DataW.trod enc Try.prog w 0 spare held m 79 [c7] = xs[7]? := by have h' := hf 7 _ rfl; simpa [rcInt, rcText, rcBool, rcStms] using h'
    obtain ⟨l0, e0⟩ := read_int Try.underlying3 f0 (hs 0 (by omega))
    obtain ⟨l1, e1, b1⟩ := read_text Try.underlying9 f1 (hs 1 (by omega))
    obtain ⟨l2, e2⟩ := read_bool Try.underlying4 f2 (hs 2 (by omega))
    obtain ⟨l3, e3⟩ := read_int Try.underlying3 f3 (hs 3 (by omega))
    obtain ⟨l4, e4⟩ := read_int Try.underlying3 f4 (hs 4 (by omega))
    obtain ⟨l5, e5⟩ := read_int Try.underlying3 f5 (hs 5 (by omega))
    obtain ⟨l6, e6⟩ := read_int Try.underlying3 f6 (hs 6 (by omega))
    obtain ⟨y7, hy7⟩ := Option.isSome_iff_exists.1 (hs 7 (by omega))
    obtain ⟨a, len, cap, ss, e7, _, h6, h7⟩ := read_stms (f7.trans hy7)
    simp at e0 e1 e2 e3 e4 e5 e6 e7
    subst e0 e1 e2 e3 e4 e5 e6 e7
    exact ⟨⟨l0, l1, l2, l3, l4, l5, l6, ss⟩, _, rfl, h6, b1, h7⟩
theorem read_cmps {n : Nat} {cs : List Value} {x : DataW H × List MemPlace} (h : DataW.trod enc Try.prog w 0 spare held n 22 cs = some x) :
    ∃ (a : Option Addr) (len cap : Nat) (fs : List Cmp), cs = [.slice a len cap] ∧ fs.length = len ∧ CmpsIn w (fun _ => True) (.slice a len cap) fs ∧ ShortCs maxLen fs := by
  rcases open_slice Try.underlying22 h with ⟨rfl, _⟩ | ⟨a, len, cap, m, k, D, Pl, rfl, _, hl, hm, hmm, _, hi⟩
  · exact ⟨none, 0, 0, [], rfl, rfl, ⟨none, 0, rfl, by simp, by unfold maxLen; omega, fun hx => absurd hx (by simp)⟩, fun s hs => by cases hs⟩
  · rw [rcCmp] at hi
    have hlm : len ≤ m := by rw [hmm]; split <;> omega
    obtain ⟨F, hF⟩ := pick_lt (α := Cmp × Value) (⟨0, [], false, 0, 0, 0, 0, []⟩, .slice none 0 0) (p := fun i p => w.cells? 0 (a.add (i * 8)) 8 = some (cmpOf p.1 p.2) ∧ StmsIn w (fun _ => True) p.2 p.1.body ∧ ShortC maxLen p.1) (n := m) (fun i him => by
      obtain ⟨cs', h1, h2⟩ := hi i him
      obtain ⟨f, bv, rfl, h3, h4⟩ := read_cmp h2
      exact ⟨(f, bv), h1, h3, h4⟩)
    refine ⟨some a, len, cap, (List.range len).map (fun i => (F i).1), rfl, by simp, ⟨some a, cap, by simp, by simpa using hl, hm, fun hx => ?_⟩, fun s hs => ?_⟩
    · have hx' : 0 < len := by simpa using hx
      obtain ⟨_, _, hc0⟩ := World.cells?_some (hF 0 (by omega)).1
      have hc00 : w.cell? (a.add 0) = some (.int .i64 (F 0).1.root) := by have := hc0 0 (by omega); rw [Go.Deep.add_add] at this; exact this
      obtain ⟨b, off, spot⟩ := a
      have hspot : spot = none := by simpa [Addr.add] using World.cell?_spot hc00
      subst hspot
      have hb : b < w.heap.size := by
        have h := World.block_lt_of_cell? w _ hc00
        simpa [Addr.add] using h
      refine ⟨b, off, rfl, trivial, hb, fun i hi' => ?_⟩
      have hil : i < len := by simpa using hi'
      obtain ⟨_, _, hc⟩ := World.cells?_some (hF i (by omega)).1
      simp only [add_none] at hc
      simp only [List.getElem_map, List.getElem_range]
      exact ⟨(F i).2, (hF i (by omega)).2.1, hc 0 (by omega), hc 1 (by omega), hc 2 (by omega), hc 3 (by omega), hc 4 (by omega), hc 5 (by omega), hc 6 (by omega), hc 7 (by omega)⟩
    · rw [List.mem_map] at hs
      obtain ⟨i, hi', rfl⟩ := hs
      rw [List.mem_range] at hi'
      exact (hF i (by omega)).2.2
end
end Go.Proofs.Ytomdmkhgkaalnaa
