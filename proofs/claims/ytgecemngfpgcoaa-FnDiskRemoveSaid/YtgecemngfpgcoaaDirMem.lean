/- Words for memory that holds directories, and contracts of the exact laws' looks at them. -/
import Derived.Test.YtgecemngfpgcoaaHeld
import Derived.Test.YtgecemngfpgcoaaStrs
import Derived.Test.YtgecemngfpgcoaaReadIn
import Derived.Test.YtgecemngfpgcoaaSzTree
import Derived.Test.YtgecemngfpgcoaaExTools
import Derived.Test.YtgecemngfpgcoaaInts
import Derived.Test.YtgecemngfpgcoaaPlainK
set_option linter.unusedVariables false
set_option linter.unusedSimpArgs false
namespace Go.Proofs.Ytgecemngfpgcoaa.Nm
open Go.RowKit

/-- The slice v reads as the texts xs in w, in a block of D; nothing is said of an empty one's address. -/
def StrsIn (w : World) (D : Nat → Prop) (v : Value) (xs : List Bs) : Prop :=
  ∃ a cap, v = .slice a xs.length cap ∧ xs.length ≤ cap ∧ cap ≤ maxLen ∧
    (0 < xs.length → ∃ b off, a = some ⟨b, off, none⟩ ∧ D b ∧ b < w.heap.size ∧ ∀ i (h : i < xs.length), w.cell? ⟨b, off + i, none⟩ = some (.string (mk xs[i])))
theorem StrsIn.keep {w w' : World} {D : Nat → Prop} {v : Value} {xs : List Bs} (h : StrsIn w D v xs) (hs : w.heap.size ≤ w'.heap.size) (hk : ∀ b, D b → b < w.heap.size → w'.heap[b]? = w.heap[b]?) : StrsIn w' D v xs := by
  obtain ⟨a, cap, h1, h2, h3, h4⟩ := h
  refine ⟨a, cap, h1, h2, h3, fun hx => ?_⟩
  obtain ⟨b, off, e1, e2, e3, e4⟩ := h4 hx
  refine ⟨b, off, e1, e2, Nat.lt_of_lt_of_le e3 hs, fun i hi => ?_⟩
  rw [World.cell?_of_block (w := w) (hk b e2 e3)]
  exact e4 i hi
theorem StrsIn.below {w w' : World} {D : Nat → Prop} {v : Value} {xs : List Bs} (h : StrsIn w D v xs) (hb : Below w.heap.size w w') : StrsIn w' D v xs := h.keep hb.size (fun b _ hlt => hb.block b hlt)
theorem StrsIn.mono {w : World} {D D' : Nat → Prop} {v : Value} {xs : List Bs} (h : StrsIn w D v xs) (hd : ∀ b, b < w.heap.size → D b → D' b) : StrsIn w D' v xs := by
  obtain ⟨a, cap, h1, h2, h3, h4⟩ := h
  refine ⟨a, cap, h1, h2, h3, fun hx => ?_⟩
  obtain ⟨b, off, e1, e2, e3, e4⟩ := h4 hx
  exact ⟨b, off, e1, hd b e3 e2, e3, e4⟩
theorem StrsIn.len {w : World} {D : Nat → Prop} {v : Value} {xs : List Bs} (h : StrsIn w D v xs) : ∃ a cap, v = .slice a xs.length cap ∧ xs.length ≤ cap ∧ cap ≤ maxLen := by
  obtain ⟨a, cap, h1, h2, h3, _⟩ := h
  exact ⟨a, cap, h1, h2, h3⟩
theorem StrsIn.at_ {w : World} {D : Nat → Prop} {v : Value} {xs : List Bs} (h : StrsIn w D v xs) {k : Nat} (hk : k < xs.length) : ∃ b off cap, v = .slice (some ⟨b, off, none⟩) xs.length cap ∧ D b ∧ b < w.heap.size ∧ w.cell? ⟨b, off + k, none⟩ = some (.string (mk xs[k])) := by
  obtain ⟨a, cap, h1, h2, h3, h4⟩ := h
  obtain ⟨b, off, e1, e2, e3, e4⟩ := h4 (by omega)
  subst e1
  exact ⟨b, off, cap, h1, e2, e3, e4 k hk⟩
theorem StrsIn.of_owns {w : World} {B : Nat} {e : TypeId} {v : Value} {xs : List Bs} {D : Nat → Prop} (h : w.ownsRow B e 1 v xs.length (xs.map sv)) (hD : ∀ g, B ≤ g → D g) : StrsIn w D v xs := by
  rcases h.2 with ⟨rfl, h2⟩ | ⟨g, cap, cur, rfl, h2, h3, h4, h5, h6, h7⟩
  · exact ⟨none, 0, by rw [h2], by omega, by unfold maxLen; omega, fun hx => absurd hx (by omega)⟩
  · refine ⟨_, cap, rfl, h4, h5, fun _ => ⟨g, 0, rfl, hD g h2, (Array.getElem?_eq_some_iff.1 h3).1, fun k hk => ?_⟩⟩
    have := h.cells (g := g) rfl k (.string (mk xs[k])) (by rw [List.getElem?_map, List.getElem?_eq_getElem hk]; rfl)
    have hadd : (⟨g, 0, none⟩ : Addr).add k = ⟨g, 0 + k, none⟩ := by unfold Addr.add; split <;> simp_all
    rw [hadd] at this
    exact this
theorem StrsIn.nil (w : World) (D : Nat → Prop) (a : Option Addr) (cap : Nat) (h : cap ≤ maxLen) : StrsIn w D (.slice a 0 cap) [] := ⟨a, cap, rfl, Nat.zero_le _, h, fun hx => absurd hx (by simp)⟩
theorem StrsIn.readsIn {w : World} {D : Nat → Prop} {v : Value} {xs : List Bs} (h : StrsIn w D v xs) : ReadsIn w v xs := by
  obtain ⟨a, cap, h1, h2, h3, h4⟩ := h
  refine ⟨a, cap, h1, h2, h3, fun hx => ?_⟩
  obtain ⟨b, off, e1, e2, e3, e4⟩ := h4 hx
  exact ⟨b, off, e1, e3, e4⟩

/-- The slice v reads as the directories ds in w, in blocks of D, and so do their names. -/
def DirsIn (w : World) (D : Nat → Prop) (v : Value) (ds : List Dr) : Prop :=
  ∃ a cap, v = .slice a ds.length cap ∧ ds.length ≤ cap ∧ cap ≤ maxLen ∧
    (0 < ds.length → ∃ b off, a = some ⟨b, off, none⟩ ∧ D b ∧ b < w.heap.size ∧
      ∀ i (h : i < ds.length), ∃ bv, StrsIn w D bv ds[i].names ∧ w.cell? ⟨b, off + i * 4, none⟩ = some (.int .i64 ds[i].root) ∧ w.cell? ⟨b, off + i * 4 + 1, none⟩ = some (.string (mk ds[i].pack)) ∧ w.cell? ⟨b, off + i * 4 + 2, none⟩ = some (.int .i64 ds[i].stamp) ∧ w.cell? ⟨b, off + i * 4 + 3, none⟩ = some bv)

theorem DirsIn.keep {w w' : World} {D : Nat → Prop} {v : Value} {ds : List Dr} (h : DirsIn w D v ds) (hs : w.heap.size ≤ w'.heap.size) (hk : ∀ b, D b → b < w.heap.size → w'.heap[b]? = w.heap[b]?) : DirsIn w' D v ds := by
  obtain ⟨a, cap, h1, h2, h3, h4⟩ := h
  refine ⟨a, cap, h1, h2, h3, fun hx => ?_⟩
  obtain ⟨b, off, e1, e2, e3, e4⟩ := h4 hx
  refine ⟨b, off, e1, e2, Nat.lt_of_lt_of_le e3 hs, fun i hi => ?_⟩
  have hc : ∀ o, w'.cell? ⟨b, o, none⟩ = w.cell? ⟨b, o, none⟩ := fun o => by rw [World.cell?_of_block (w := w) (hk b e2 e3)]
  simp only [hc]
  obtain ⟨bv, g1, g2⟩ := e4 i hi
  exact ⟨bv, g1.keep hs hk, g2⟩

theorem DirsIn.below {w w' : World} {D : Nat → Prop} {v : Value} {ds : List Dr} (h : DirsIn w D v ds) (hb : Below w.heap.size w w') : DirsIn w' D v ds := h.keep hb.size (fun b _ hlt => hb.block b hlt)

theorem DirsIn.mono {w : World} {D D' : Nat → Prop} {v : Value} {ds : List Dr} (h : DirsIn w D v ds) (hd : ∀ b, b < w.heap.size → D b → D' b) : DirsIn w D' v ds := by
  obtain ⟨a, cap, h1, h2, h3, h4⟩ := h
  refine ⟨a, cap, h1, h2, h3, fun hx => ?_⟩
  obtain ⟨b, off, e1, e2, e3, e4⟩ := h4 hx
  refine ⟨b, off, e1, hd b e3 e2, e3, fun i hi => ?_⟩
  obtain ⟨bv, g1, g2⟩ := e4 i hi
  exact ⟨bv, g1.mono hd, g2⟩

theorem DirsIn.len {w : World} {D : Nat → Prop} {v : Value} {ds : List Dr} (h : DirsIn w D v ds) : ∃ a cap, v = .slice a ds.length cap ∧ ds.length ≤ cap ∧ cap ≤ maxLen := by
  obtain ⟨a, cap, h1, h2, h3, _⟩ := h
  exact ⟨a, cap, h1, h2, h3⟩

theorem DirsIn.at_ {w : World} {D : Nat → Prop} {v : Value} {ds : List Dr} (h : DirsIn w D v ds) {i : Nat} (hi : i < ds.length) : ∃ b off cap bv, v = .slice (some ⟨b, off, none⟩) ds.length cap ∧ D b ∧ b < w.heap.size ∧ StrsIn w D bv ds[i].names ∧
    w.cell? ⟨b, off + i * 4, none⟩ = some (.int .i64 ds[i].root) ∧ w.cell? ⟨b, off + i * 4 + 1, none⟩ = some (.string (mk ds[i].pack)) ∧ w.cell? ⟨b, off + i * 4 + 2, none⟩ = some (.int .i64 ds[i].stamp) ∧ w.cell? ⟨b, off + i * 4 + 3, none⟩ = some bv := by
  obtain ⟨a, cap, h1, h2, h3, h4⟩ := h
  obtain ⟨b, off, e1, e2, e3, e4⟩ := h4 (by omega)
  subst e1
  obtain ⟨bv, g1, g2⟩ := e4 i hi
  exact ⟨b, off, cap, bv, h1, e2, e3, g1, g2⟩

/-- The texts of a directory are not too long. -/
def ShortS (B : Nat) (xs : List Bs) : Prop := ∀ p ∈ xs, p.length ≤ B
def ShortR (B : Nat) (d : Dr) : Prop := d.pack.length ≤ B ∧ ShortS B d.names
def ShortD (B : Nat) (ds : List Dr) : Prop := ∀ d ∈ ds, ShortR B d
/-- The cells of a directory whose names are the slice nv. -/
def drCells (p : Dr × Value) : List Value := [.int .i64 p.1.root, .string (mk p.1.pack), .int .i64 p.1.stamp, p.2]
theorem drCells_len (p : Dr × Value) : (drCells p).length = 4 := rfl
theorem list4 {l : List Value} (h : l.length = 4) : ∃ a b c d, l = [a, b, c, d] := by
  match l, h with
  | [a, b, c, d], _ => exact ⟨a, b, c, d, rfl⟩
section
variable {w : World} {B e g cap n : Nat}
theorem own4 {L : List (Dr × Value)} (h : w.ownsRow B e 4 (.slice (some ⟨g, 0, none⟩) n cap) n (L.flatMap drCells)) (i : Nat) (hi : i < L.length) :
    (w.cell? ⟨g, i * 4, none⟩ = some (.int .i64 L[i].1.root) ∧ w.cell? ⟨g, i * 4 + 1, none⟩ = some (.string (mk L[i].1.pack)) ∧ w.cell? ⟨g, i * 4 + 2, none⟩ = some (.int .i64 L[i].1.stamp) ∧ w.cell? ⟨g, i * 4 + 3, none⟩ = some L[i].2) ∧
    (w.frozen? ⟨g, i * 4, none⟩ = false ∧ w.frozen? ⟨g, i * 4 + 1, none⟩ = false ∧ w.frozen? ⟨g, i * 4 + 2, none⟩ = false ∧ w.frozen? ⟨g, i * 4 + 3, none⟩ = false) := by
  have hl := fm_len drCells 4 L drCells_len
  have hn : (L.flatMap drCells).length = n * 4 := h.1
  have hc : ∀ j, j < 4 → w.cell? ⟨g, i * 4 + j, none⟩ = (drCells L[i])[j]? := fun j hj => by
    rw [h.cellAt (i * 4 + j) (by omega), fm_get drCells 4 L i j hi hj drCells_len]
  exact ⟨⟨hc 0 (by omega), hc 1 (by omega), hc 2 (by omega), hc 3 (by omega)⟩, h.frozenAt _, h.frozenAt _, h.frozenAt _, h.frozenAt _⟩
theorem own4_put {L : List (Dr × Value)} (h : w.ownsRow B e 4 (.slice (some ⟨g, 0, none⟩) n cap) n (L.flatMap drCells)) (i : Nat) (hi : i < L.length) (p : Dr × Value) :
    ((((w.setCell ⟨g, i * 4, none⟩ (.int .i64 p.1.root)).setCell ⟨g, i * 4 + 1, none⟩ (.string (mk p.1.pack))).setCell ⟨g, i * 4 + 2, none⟩ (.int .i64 p.1.stamp)).setCell ⟨g, i * 4 + 3, none⟩ p.2).ownsRow B e 4 (.slice (some ⟨g, 0, none⟩) n cap) n ((L.set i p).flatMap drCells) := by
  have h5 := (((h.stored (i * 4) (.int .i64 p.1.root)).1.stored (i * 4 + 1) (.string (mk p.1.pack))).1.stored (i * 4 + 2) (.int .i64 p.1.stamp)).1.stored (i * 4 + 3) p.2
  have hA := fm_take_len drCells 4 L i hi drCells_len
  obtain ⟨a0, a1, a2, a3, ha⟩ := list4 (drCells_len L[i])
  rw [fm_split drCells L i hi, ha] at h5
  rw [fm_put drCells L i p hi]
  have s0 : ((L.take i).flatMap drCells ++ ([a0, a1, a2, a3] ++ (L.drop (i + 1)).flatMap drCells)).set (i * 4) (.int .i64 p.1.root) = (L.take i).flatMap drCells ++ ([a0, a1, a2, a3].set 0 (.int .i64 p.1.root) ++ (L.drop (i + 1)).flatMap drCells) := set_mid _ _ _ (i * 4) 0 _ hA (by simp)
  rw [s0, set_mid _ _ _ (i * 4) 1 _ hA (by simp), set_mid _ _ _ (i * 4) 2 _ hA (by simp), set_mid _ _ _ (i * 4) 3 _ hA (by simp)] at h5
  exact h5.1
end
def zeroDr : Dr × Value := (⟨0, [], 0, []⟩, .slice none 0 0)
theorem made4 (n : Nat) : (madeCells #[.int .i64 0, .string ByteArray.empty, .int .i64 0, .slice none 0 0] (n * 4)).toList = (List.replicate n zeroDr).flatMap drCells := by
  rw [made_cells _ 4 rfl (by omega), List.flatMap_def, List.map_replicate]; rfl
theorem DirsIn.of_owns {w : World} {B : Nat} {e : TypeId} {v : Value} {ps : List (Dr × Value)} {D : Nat → Prop} (h : w.ownsRow B e 4 v ps.length (ps.flatMap drCells)) (hD : ∀ g, B ≤ g → D g) (hb : ∀ p ∈ ps, StrsIn w D p.2 p.1.names) :
    DirsIn w D v (ps.map (·.1)) := by
  rcases h.2 with ⟨h1, h2⟩ | ⟨g, cap, cur, h1, h2, h3, h4, h5, h6, h7⟩
  · exact ⟨none, 0, by rw [h1]; simp [h2], by simp [h2], by unfold maxLen; omega, fun hx => absurd hx (by rw [List.length_map]; omega)⟩
  · subst h1
    refine ⟨_, cap, by simp, by simpa using h4, h5, fun _ => ⟨g, 0, rfl, hD g h2, (Array.getElem?_eq_some_iff.1 h3).1, fun i hi => ?_⟩⟩
    have hi' : i < ps.length := by simpa using hi
    refine ⟨ps[i].2, by simpa using hb _ (List.getElem_mem hi'), ?_⟩
    simpa using (own4 h i hi').1
end Go.Proofs.Ytgecemngfpgcoaa.Nm
namespace Go.Proofs.Ytgecemngfpgcoaa
open Go.RowKit Go.ChangeShapes Go.WideShapes Go.Deep Go.Proofs.Ytgecemngfpgcoaa.Nm

def szS (xs : List Bs) : Nat := xs.length + (xs.map List.length).sum
def drCost (d : Dr) : Nat := d.pack.length + szS d.names
def drsCost (ds : List Dr) : Nat := ds.length + (ds.map drCost).sum
def drsCost' (ds : List Dr) : Prop := ds.length ≤ 1048576 ∧ ∀ d ∈ ds, d.names.length ≤ 1048576
theorem drCosts_of {ds : List Dr} (h : drsCost ds ≤ 1048576) : drsCost' ds := by
  unfold drsCost at h
  refine ⟨by omega, fun d hd => ?_⟩
  have := mem_sum drCost hd
  have e : drCost d = d.pack.length + (d.names.length + (d.names.map List.length).sum) := rfl
  omega
theorem shortS_of {xs : List Bs} {B : Nat} (h : szS xs ≤ B) : ShortS B xs := fun p hp => by
  have := mem_sum List.length hp
  unfold szS at h; omega
theorem shortD_of {ds : List Dr} {B : Nat} (h : drsCost ds ≤ B) : ShortD B ds := fun d hd => by
  have := mem_sum drCost hd
  unfold drsCost at h
  have e : drCost d = d.pack.length + szS d.names := rfl
  exact ⟨by omega, shortS_of (by omega)⟩
theorem shortS_mono {A B : Nat} (h : A ≤ B) {xs : List Bs} (hs : ShortS A xs) : ShortS B xs := fun p hp => Nat.le_trans (hs p hp) h
theorem shortD_mono {A B : Nat} (h : A ≤ B) {ds : List Dr} (hs : ShortD A ds) : ShortD B ds := fun d hd => ⟨Nat.le_trans (hs d hd).1 h, shortS_mono h (hs d hd).2⟩
def drV (p : Dr × Value) : Value := .agg #[.int .i64 p.1.root, .string (mk p.1.pack), .int .i64 p.1.stamp, p.2]
def sameTs (a b : List Bs) : Bool := decide (a = b)
def sameDr (a b : Dr) : Bool := decide (a = b)
def sameDrs (a b : List Dr) : Bool := decide (a = b)

set_option maxRecDepth 100000 in
set_option maxHeartbeats 1000000 in
theorem laws_szStringSB (v : Value) (xs : List Bs) (D : Nat → Prop) (left : Nat) (w : World) (hr : StrsIn w D v xs) (hz : ShortS maxLen xs) (hl : left ≤ 1048576) :
    Calls Try.prog 128 #[v, .int .i64 left] w (SzB (szS xs) left w) := by
  have Hr := Lib.hid hr
  have Hz := Lib.hid hz
  obtain ⟨aa, ca, rfl, hlc, hm⟩ := hr.len
  unfold maxLen at hm
  clear hr hz
  by_cases h0 : (left : Int) - (xs.length : Int) < 0
  · go_enter Try.func128, Try.ntmps128
    go_wp2_with fail
    go_ret
    exact ⟨-1, rfl, .inr rfl, by (repeat (with_reducible first | exact Below.refl _ _ | assumption | refine ba ?_ _ | refine bd ?_ | refine bdN ?_ _ | refine bs ?_ (by first | exact Nat.le_refl _ | (dsimp only; omega) | (simp; done)) _ | refine bt ?_ (by assumption)))⟩
  · have hw : (left : Int) - (xs.length : Int) = ((left - xs.length : Nat) : Int) := by omega
    go_enter Try.func128, Try.ntmps128
    go_wp2_with fail
    go_loopw [1, 5] (fun lv iv wr => ∃ (i L : Nat), i ≤ xs.length ∧ iv = .int .i64 i ∧ lv = .int .i64 L ∧ L + (xs.length + ((xs.take i).map List.length).sum) ≤ left ∧ Below w.heap.size w wr) (fun _ iv _ => xs.length - (intOf iv).toNat)
    case atStart => exact ⟨0, left - xs.length, by omega, rfl, by first | rfl | go_num | simp [hw], by simp; omega, Below.refl _ _⟩
    case round =>
      obtain ⟨i, L, hi, rfl, rfl, hL, hbel⟩ := hrel
      have HL := Lib.hid hL
      have hLl : L ≤ 1048576 := by omega
      clear hL h0 hw
      by_cases hlt : i < xs.length
      · obtain ⟨b, off, cap, e, hD, hb, c0⟩ := (Hr.out.below hbel).at_ hlt
        simp only [Value.slice.injEq] at e
        obtain ⟨rfl, _, rfl⟩ := e
        have z1 := Hz.out _ (List.getElem_mem hlt)
        unfold maxLen at z1
        have Hs := Lib.hid (sum_snoc List.length xs i hlt)
        generalize xs[i] = s at *
        by_cases h1 : (L : Int) - (s.length : Int) < 0
        · go_wp2_with fail
          go_ret
          exact ⟨-1, rfl, .inr rfl, by (repeat (with_reducible first | exact Below.refl _ _ | assumption | refine ba ?_ _ | refine bd ?_ | refine bdN ?_ _ | refine bs ?_ (by first | exact Nat.le_refl _ | (dsimp only; omega) | (simp; done)) _ | refine bt ?_ (by assumption)))⟩
        · obtain ⟨R, hR⟩ : ∃ R : Nat, (L : Int) - (s.length : Int) = (R : Int) := ⟨L - s.length, by omega⟩
          have HR := Lib.hid hR
          go_wp2_with fail
          go_roundw
          case rel => exact ⟨i + 1, R, by omega, by go_num, by first | rfl | go_num | simp [hR], by have h1 := HL.out; have h2 := Hs.out; omega, by (repeat (with_reducible first | exact Below.refl _ _ | assumption | refine ba ?_ _ | refine bd ?_ | refine bdN ?_ _ | refine bs ?_ (by first | exact Nat.le_refl _ | (dsimp only; omega) | (simp; done)) _ | refine bt ?_ (by assumption)))⟩
          case measure => simp [intOf]; omega
      · obtain rfl : i = xs.length := by omega
        have Hf := Lib.hid (show L + szS xs ≤ left by have := HL.out; rw [List.take_length] at this; exact this)
        go_wp2_with fail
        go_ret
        exact ⟨L, rfl, .inl ⟨by omega, by have := Hf.out; omega⟩, hbel⟩
set_option maxRecDepth 100000 in
set_option maxHeartbeats 1000000 in
theorem laws_szDir (r st : Int) (p : Bs) (nv : Value) (names : List Bs) (D : Nat → Prop) (left : Nat) (w : World) (hp : p.length ≤ maxLen) (hr : StrsIn w D nv names) (hz : ShortS maxLen names) (hl : left ≤ 1048576) :
    Calls Try.prog 98 #[.agg #[.int .i64 r, .string (mk p), .int .i64 st, nv], .int .i64 left] w (SzB (drCost ⟨r, p, st, names⟩) left w) := by
  unfold maxLen at hp
  have Hr := Lib.hid hr
  have Hz := Lib.hid hz
  obtain ⟨aa, ca, rfl, hlc, hm⟩ := hr.len
  have Hc := Lib.hid (show drCost ⟨r, p, st, names⟩ = p.length + szS names from rfl)
  clear hr hz hm
  by_cases h1 : (left : Int) - (p.length : Int) < 0
  · go_enter Try.func98, Try.ntmps98
    go_wp2_with fail
    go_ret
    exact ⟨-1, rfl, .inr rfl, by (repeat (with_reducible first | exact Below.refl _ _ | assumption | refine ba ?_ _ | refine bd ?_ | refine bdN ?_ _ | refine bs ?_ (by first | exact Nat.le_refl _ | (dsimp only; omega) | (simp; done)) _ | refine bt ?_ (by assumption)))⟩
  · obtain ⟨L, hL⟩ : ∃ L : Nat, (left : Int) - (p.length : Int) = (L : Int) := ⟨left - p.length, by omega⟩
    have hLl : L ≤ 1048576 := by omega
    have HL := Lib.hid hL
    go_enter Try.func98, Try.ntmps98
    go_wp2_with (go_at_call 128; refine (laws_szStringSB _ names D L _ (Hr.out.below (by (repeat (with_reducible first | exact Below.refl _ _ | assumption | refine ba ?_ _ | refine bd ?_ | refine bdN ?_ _ | refine bs ?_ (by first | exact Nat.le_refl _ | (dsimp only; omega) | (simp; done)) _ | refine bt ?_ (by assumption))))) Hz.out hLl).mono ?_; rintro _ _ ⟨r, rfl, hr, hb2⟩; obtain ⟨hc, hf, hs⟩ := bcell hb2)
    · go_ret
      exact ⟨-1, rfl, .inr rfl, by (repeat (with_reducible first | exact Below.refl _ _ | assumption | refine ba ?_ _ | refine bd ?_ | refine bdN ?_ _ | refine bs ?_ (by first | exact Nat.le_refl _ | (dsimp only; omega) | (simp; done)) _ | refine bt ?_ (by assumption)))⟩
    · go_ret
      refine ⟨_, rfl, ?_, by (repeat (with_reducible first | exact Below.refl _ _ | assumption | refine ba ?_ _ | refine bd ?_ | refine bdN ?_ _ | refine bs ?_ (by first | exact Nat.le_refl _ | (dsimp only; omega) | (simp; done)) _ | refine bt ?_ (by assumption)))⟩
      rw [Hc.out]
      rcases hr with ⟨hr0, hr1⟩ | hr1
      · exact .inl ⟨by omega, by omega⟩
      · exact .inr hr1
set_option maxRecDepth 100000 in
set_option maxHeartbeats 1000000 in
theorem laws_szDirS (v : Value) (ds : List Dr) (D : Nat → Prop) (left : Nat) (w : World) (hr : DirsIn w D v ds) (hz : ShortD maxLen ds) (hl : left ≤ 1048576) :
    Calls Try.prog 61 #[v, .int .i64 left] w (SzB (drsCost ds) left w) := by
  have Hr := Lib.hid hr
  have Hz := Lib.hid hz
  obtain ⟨aa, ca, rfl, hlc, hm⟩ := hr.len
  unfold maxLen at hm
  clear hr hz
  by_cases h0 : (left : Int) - (ds.length : Int) < 0
  · go_enter Try.func61, Try.ntmps61
    go_wp2_with fail
    go_ret
    exact ⟨-1, rfl, .inr rfl, by (repeat (with_reducible first | exact Below.refl _ _ | assumption | refine ba ?_ _ | refine bd ?_ | refine bdN ?_ _ | refine bs ?_ (by first | exact Nat.le_refl _ | (dsimp only; omega) | (simp; done)) _ | refine bt ?_ (by assumption)))⟩
  · have hw : (left : Int) - (ds.length : Int) = ((left - ds.length : Nat) : Int) := by omega
    go_enter Try.func61, Try.ntmps61
    go_wp2_with fail
    go_loopw [1, 5] (fun lv iv wr => ∃ (i L : Nat), i ≤ ds.length ∧ iv = .int .i64 i ∧ lv = .int .i64 L ∧ L + (ds.length + ((ds.take i).map drCost).sum) ≤ left ∧ Below w.heap.size w wr) (fun _ iv _ => ds.length - (intOf iv).toNat)
    case atStart => exact ⟨0, left - ds.length, by omega, rfl, by first | rfl | go_num | simp [hw], by simp; omega, Below.refl _ _⟩
    case round =>
      obtain ⟨i, L, hi, rfl, rfl, hL, hbel⟩ := hrel
      have HL := Lib.hid hL
      have hLl : L ≤ 1048576 := by omega
      clear hL h0 hw
      by_cases hlt : i < ds.length
      · obtain ⟨b, off, cap, bv, e, hD, hb, hbody, c0, c1, c2, c3⟩ := (Hr.out.below hbel).at_ hlt
        simp only [Value.slice.injEq] at e
        obtain ⟨rfl, _, rfl⟩ := e
        obtain ⟨ba', bc', rfl, hbl, hbm⟩ := hbody.len
        obtain ⟨z1, z3⟩ := Hz.out _ (List.getElem_mem hlt)
        have Hz3 := Lib.hid z3
        have Hbody := Lib.hid hbody
        have Hs := Lib.hid (sum_snoc drCost ds i hlt)
        obtain ⟨f, hf⟩ : ∃ f, f = ds[i] := ⟨_, rfl⟩
        rw [← hf] at c0 c1 c2 c3 z1 Hz3 Hs Hbody
        clear hf hbody hbm hbl z3
        obtain ⟨fr, fp, dst, fb⟩ := f
        dsimp only at c0 c1 c2 c3 z1
        go_wp2_with (go_at_call 98; refine (laws_szDir _ _ _ _ fb D L _ z1 (Hbody.out.below (by (repeat (with_reducible first | exact Below.refl _ _ | assumption | refine ba ?_ _ | refine bd ?_ | refine bdN ?_ _ | refine bs ?_ (by first | exact Nat.le_refl _ | (dsimp only; omega) | (simp; done)) _ | refine bt ?_ (by assumption))))) Hz3.out hLl).mono ?_; rintro _ _ ⟨r, rfl, hr, hb2⟩; obtain ⟨hc, hf, hs⟩ := bcell hb2)
        · have h : r < 0 := by assumption
          go_ret
          exact ⟨-1, rfl, .inr rfl, by (repeat (with_reducible first | exact Below.refl _ _ | assumption | refine ba ?_ _ | refine bd ?_ | refine bdN ?_ _ | refine bs ?_ (by first | exact Nat.le_refl _ | (dsimp only; omega) | (simp; done)) _ | refine bt ?_ (by assumption)))⟩
        · rcases hr with ⟨hr0, hr1⟩ | hr1
          · obtain ⟨R, rfl⟩ := Int.eq_ofNat_of_zero_le hr0
            go_roundw
            case rel => exact ⟨i + 1, R, by omega, by go_num, rfl, by have h1 := HL.out; have h2 := Hs.out; omega, by (repeat (with_reducible first | exact Below.refl _ _ | assumption | refine ba ?_ _ | refine bd ?_ | refine bdN ?_ _ | refine bs ?_ (by first | exact Nat.le_refl _ | (dsimp only; omega) | (simp; done)) _ | refine bt ?_ (by assumption)))⟩
            case measure => simp [intOf]; omega
          · exact absurd hr1 (by omega)
      · obtain rfl : i = ds.length := by omega
        have Hf := Lib.hid (show L + drsCost ds ≤ left by have := HL.out; rw [List.take_length] at this; exact this)
        go_wp2_with fail
        go_ret
        exact ⟨L, rfl, .inl ⟨by omega, by have := Hf.out; omega⟩, hbel⟩

theorem sameTs_no {a b : List Bs} {k : Nat} (h1 : k < a.length) (h2 : k < b.length) (h : a[k] ≠ b[k]) : sameTs a b = false := decide_eq_false (fun e => by subst e; exact h rfl)
set_option maxRecDepth 100000 in
set_option maxHeartbeats 400000 in
theorem laws_eqStringSI (D D' : Nat → Prop) (va vb : Value) (xs ys : List Bs) (w : World) (ha : StrsIn w D va xs) (hb : StrsIn w D' vb ys) :
    Calls Try.prog 130 #[va, vb] w fun e w' => e = .returned (.bool (sameTs xs ys)) ∧ Below w.heap.size w w' := by
  have Ha := Lib.hid ha
  have Hb := Lib.hid hb
  obtain ⟨aa, ca, rfl, hl1, hm1⟩ := ha.len
  obtain ⟨ab, cb, rfl, hl2, hm2⟩ := hb.len
  unfold maxLen at hm1 hm2
  clear ha hb
  by_cases hl : xs.length = ys.length
  · have Hl := Lib.hid hl
    rw [← hl] at hl2 ⊢
    clear hl
    go_enter Try.func130, Try.ntmps130
    go_wp2_with fail
    go_loopw [5] (fun kv wr => ∃ k : Nat, k ≤ xs.length ∧ kv = .int .i64 k ∧ Below w.heap.size w wr ∧ ∀ i (h1 : i < xs.length) (h2 : i < ys.length), i < k → xs[i] = ys[i]) (fun kv _ => xs.length - (intOf kv).toNat)
    case atStart => exact ⟨0, by omega, rfl, Below.refl _ _, fun i _ _ h => absurd h (by omega)⟩
    case round =>
      obtain ⟨k, hk, rfl, hbel, hp⟩ := hrel
      have Hp := Lib.hid hp
      clear hp
      by_cases hlt : k < xs.length
      · have hlt2 : k < ys.length := by rw [← Hl.out]; exact hlt
        obtain ⟨b1, o1, c1, e1, hD1, hb1, hc1⟩ := Ha.out.at_ hlt
        obtain ⟨b2, o2, c2, e2, hD2, hb2, hc2⟩ := Hb.out.at_ hlt2
        simp only [Value.slice.injEq] at e1 e2
        obtain ⟨rfl, _, rfl⟩ := e1
        obtain ⟨rfl, _, rfl⟩ := e2
        have hce1 := (hbel.cell (p := ⟨b1, o1 + k, none⟩) hb1).trans hc1
        have hce2 := (hbel.cell (p := ⟨b2, o2 + k, none⟩) hb2).trans hc2
        have hki : (k : Int) < (xs.length : Int) := by omega
        have hk0 : (0 : Int) ≤ (k : Int) := by omega
        clear hc1 hc2
        by_cases heq : xs[k] = ys[k]
        · have Heq := Lib.hid heq
          rw [← heq] at hce2
          clear heq
          go_wp2_with fail
          go_quiet (fail)
          go_wp2_with fail
          go_roundw
          case rel =>
            refine ⟨k + 1, by omega, by go_num, below_drewN' hbel _, fun i h1 h2 hi => ?_⟩
            by_cases e : i = k
            · subst e; exact Heq.out
            · exact Hp.out i h1 h2 (by omega)
          case measure => simp [intOf]; omega
        · have hne : (xs[k] == ys[k]) = false := by simpa using heq
          have hv : sameTs xs ys = false := decide_eq_false (fun e => heq (by subst e; rfl))
          have Hv := Lib.hid hv
          clear hv heq
          generalize xs[k] = p at *
          generalize ys[k] = r at *
          go_wp2_with fail
          go_quiet (fail)
          go_wp2_with fail
          go_ret
          rw [Hv.out]
          exact ⟨rfl, below_drewN' hbel _⟩
      · have hv : sameTs xs ys = true := decide_eq_true (List.ext_getElem Hl.out (fun i h1 h2 => Hp.out i h1 h2 (by omega)))
        have Hv := Lib.hid hv
        clear hv
        go_wp2_with fail
        go_ret
        rw [Hv.out]
        exact ⟨rfl, hbel⟩
  · have hv : sameTs xs ys = false := decide_eq_false (fun e => hl (by rw [e]))
    have Hv := Lib.hid hv
    have hlb : ((xs.length : Int) == (ys.length : Int)) = false := by rw [beq_eq_false_iff_ne]; omega
    clear hv hl
    generalize xs.length = n at *
    generalize ys.length = m at *
    go_enter Try.func130, Try.ntmps130
    go_wp2_with fail
    go_ret
    rw [Hv.out]
    exact ⟨rfl, Below.refl _ _⟩
set_option maxRecDepth 100000 in
set_option maxHeartbeats 1000000 in
theorem laws_eqDir (r st : Int) (p : Bs) (bv : Value) (body : List Bs) (r' st' : Int) (p' : Bs) (bv' : Value) (body' : List Bs) (D D' : Nat → Prop) (w : World) (hr : StrsIn w D bv body) (hr' : StrsIn w D' bv' body') :
    Calls Try.prog 107 #[.agg #[.int .i64 r, .string (mk p), .int .i64 st, bv], .agg #[.int .i64 r', .string (mk p'), .int .i64 st', bv']] w
      fun e w' => e = .returned (.bool (sameDr ⟨r, p, st, body⟩ ⟨r', p', st', body'⟩)) ∧ Below w.heap.size w w' := by
  have Hr := Lib.hid hr
  have Hr' := Lib.hid hr'
  obtain ⟨aa, ca, rfl, hl, hm⟩ := hr.len
  obtain ⟨aa', ca', rfl, hl', hm'⟩ := hr'.len
  unfold maxLen at hm hm'
  clear hr hr'
  go_enter Try.func107, Try.ntmps107
  go_wp2_with (go_at_call 130; refine (laws_eqStringSI D D' _ _ body body' _ (Hr.out.below (by (repeat (with_reducible first | exact Below.refl _ _ | assumption | refine ba ?_ _ | refine bd ?_ | refine bdN ?_ _ | refine bs ?_ (by first | exact Nat.le_refl _ | (dsimp only; omega) | (simp; done)) _ | refine bt ?_ (by assumption))))) (Hr'.out.below (by (repeat (with_reducible first | exact Below.refl _ _ | assumption | refine ba ?_ _ | refine bd ?_ | refine bdN ?_ _ | refine bs ?_ (by first | exact Nat.le_refl _ | (dsimp only; omega) | (simp; done)) _ | refine bt ?_ (by assumption)))))).mono ?_; (rintro _ _ ⟨rfl, hb⟩; obtain ⟨hc, hf, hs⟩ := bcell hb))
  all_goals (go_ret; refine ⟨ret_bool ?_, by (repeat (with_reducible first | exact Below.refl _ _ | assumption | refine ba ?_ _ | refine bd ?_ | refine bdN ?_ _ | refine bs ?_ (by first | exact Nat.le_refl _ | (dsimp only; omega) | (simp; done)) _ | refine bt ?_ (by assumption)))⟩; simp_all [sameDr, sameTs, beq_bs', beq_dec, bne_bs, bne_int])

theorem sameDrs_no {a b : List Dr} {k : Nat} (h1 : k < a.length) (h2 : k < b.length) (h : sameDr a[k] b[k] = false) : sameDrs a b = false :=
  decide_eq_false (fun e => by subst e; exact of_decide_eq_false h rfl)
set_option maxRecDepth 100000 in
set_option maxHeartbeats 1000000 in
theorem laws_eqDirS (v v' : Value) (ds ds' : List Dr) (D D' : Nat → Prop) (w : World) (hr : DirsIn w D v ds) (hr' : DirsIn w D' v' ds') :
    Calls Try.prog 69 #[v, v'] w fun e w' => e = .returned (.bool (sameDrs ds ds')) ∧ Below w.heap.size w w' := by
  have Hr := Lib.hid hr
  have Hr' := Lib.hid hr'
  obtain ⟨aa, ca, rfl, hl, hm⟩ := hr.len
  obtain ⟨aa', ca', rfl, hl', hm'⟩ := hr'.len
  unfold maxLen at hm hm'
  clear hr hr'
  by_cases he : ds.length = ds'.length
  · have He := Lib.hid he
    rw [← he]
    rw [← he] at Hr'
    clear he
    go_enter Try.func69, Try.ntmps69
    go_wp2_with fail
    go_loopw [5] (fun iv wr => ∃ k : Nat, k ≤ ds.length ∧ iv = .int .i64 k ∧ Below w.heap.size w wr ∧ ∀ i (h1 : i < ds.length) (h2 : i < ds'.length), i < k → ds[i] = ds'[i]) (fun iv _ => ds.length - (intOf iv).toNat)
    case atStart => exact ⟨0, by omega, rfl, Below.refl _ _, fun i _ _ h => absurd h (by omega)⟩
    case round =>
      obtain ⟨k, hk, rfl, hbel, ha⟩ := hrel
      have Ha := Lib.hid ha
      clear ha
      by_cases hlt : k < ds.length
      · have hlt' : k < ds'.length := by rw [← He.out]; exact hlt
        obtain ⟨b, off, cap, bv, e, hD, hb, hbody, c0, c1, c2, c3⟩ := (Hr.out.below hbel).at_ hlt
        obtain ⟨b', off', cap', bv', e', hD', hb', hbody', c0', c1', c2', c3'⟩ := (DirsIn.below (v := .slice aa' ds'.length ca') (by have := Hr'.out; rwa [He.out] at this) hbel).at_ hlt'
        simp only [Value.slice.injEq] at e e'
        obtain ⟨rfl, _, rfl⟩ := e
        obtain ⟨rfl, _, rfl⟩ := e'
        obtain ⟨ba1, bc1, rfl, _, _⟩ := hbody.len
        obtain ⟨ba2, bc2, rfl, _, _⟩ := hbody'.len
        have Hbody := Lib.hid hbody
        have Hbody' := Lib.hid hbody'
        have Hn := Lib.hid (sameDrs_no hlt hlt')
        obtain ⟨s, hs⟩ : ∃ s, s = ds[k] := ⟨_, rfl⟩
        obtain ⟨s', hs'⟩ : ∃ s', s' = ds'[k] := ⟨_, rfl⟩
        rw [← hs] at c0 c1 c2 c3 Hn Hbody
        rw [← hs'] at c0' c1' c2' c3' Hn Hbody'
        have Hy := Lib.hid (fun (h : sameDr s s' = true) => (show ds[k] = ds'[k] by rw [← hs, ← hs']; exact of_decide_eq_true h))
        clear hs hs' hbody hbody'
        obtain ⟨fr, fp, dst, fb⟩ := s
        obtain ⟨fr', fp', dst', fb'⟩ := s'
        dsimp only at c0 c1 c2 c3 c0' c1' c2' c3'
        have hk1 : (k : Int) < (ds.length : Int) := by omega
        have hk0 : (0 : Int) ≤ (k : Int) := by omega
        go_wp2_with fail
        go_still_tail 8, (by kernel_rfl)
        go_wp2_with (go_at_call 107; refine (laws_eqDir _ _ _ _ fb _ _ _ _ fb' D D' _ (Hbody.out.below (by (repeat (with_reducible first | exact Below.refl _ _ | assumption | refine ba ?_ _ | refine bd ?_ | refine bdN ?_ _ | refine bs ?_ (by first | exact Nat.le_refl _ | (dsimp only; omega) | (simp; done)) _ | refine bt ?_ (by assumption))))) (Hbody'.out.below (by (repeat (with_reducible first | exact Below.refl _ _ | assumption | refine ba ?_ _ | refine bd ?_ | refine bdN ?_ _ | refine bs ?_ (by first | exact Nat.le_refl _ | (dsimp only; omega) | (simp; done)) _ | refine bt ?_ (by assumption)))))).mono ?_; (rintro _ _ ⟨rfl, hb⟩; obtain ⟨hc, hf, hs⟩ := bcell hb))
        · have h : (!sameDr ⟨fr, fp, dst, fb⟩ ⟨fr', fp', dst', fb'⟩) = true := by assumption
          go_ret
          rw [Hn.out (by simpa using h)]
          exact ⟨rfl, by (repeat (with_reducible first | exact Below.refl _ _ | assumption | refine ba ?_ _ | refine bd ?_ | refine bdN ?_ _ | refine bs ?_ (by first | exact Nat.le_refl _ | (dsimp only; omega) | (simp; done)) _ | refine bt ?_ (by assumption)))⟩
        · have h : (!sameDr ⟨fr, fp, dst, fb⟩ ⟨fr', fp', dst', fb'⟩) = false := by assumption
          go_roundw
          case rel =>
            refine ⟨k + 1, by omega, by go_num, by (repeat (with_reducible first | exact Below.refl _ _ | assumption | refine ba ?_ _ | refine bd ?_ | refine bdN ?_ _ | refine bs ?_ (by first | exact Nat.le_refl _ | (dsimp only; omega) | (simp; done)) _ | refine bt ?_ (by assumption))), fun i h1 h2 hi => ?_⟩
            by_cases e : i = k
            · subst e; exact Hy.out (by simpa using h)
            · exact Ha.out i h1 h2 (by omega)
          case measure => simp [intOf]; omega
      · have hv := Lib.hid (show sameDrs ds ds' = true from decide_eq_true (List.ext_getElem He.out (fun i h1 h2 => Ha.out i h1 h2 (by omega))))
        go_wp2_with fail
        go_ret
        rw [hv.out]
        exact ⟨rfl, hbel⟩
  · have Hv := Lib.hid (show sameDrs ds ds' = false from decide_eq_false (fun e => he (by rw [e])))
    have hlb : ((ds.length : Int) == (ds'.length : Int)) = false := by rw [beq_eq_false_iff_ne]; omega
    clear he
    generalize ds.length = p at *
    generalize ds'.length = q at *
    go_enter Try.func69, Try.ntmps69
    go_wp2_with fail
    go_ret
    rw [Hv.out]
    exact ⟨rfl, by (repeat (with_reducible first | exact Below.refl _ _ | assumption | refine ba ?_ _ | refine bd ?_ | refine bdN ?_ _ | refine bs ?_ (by first | exact Nat.le_refl _ | (dsimp only; omega) | (simp; done)) _ | refine bt ?_ (by assumption)))⟩

theorem laws_toStringSD (v : Value) (xs : List Bs) (D : Nat → Prop) (w : World) (hr : StrsIn w D v xs) (hl : xs.length ≤ 1048576) :
    Calls Try.prog 129 #[v] w (NewStrs 9 xs w) := laws_toStringS v xs w hr.readsIn hl
/-- What a function that returns a directory with new names comes to. -/
def NewDr (d : Dr) (w : World) (e : Ending) (w' : World) : Prop :=
  ∃ nv, e = .returned (drV (d, nv)) ∧ w'.ownsRow w.heap.size 9 1 nv d.names.length (d.names.map sv) ∧ Below w.heap.size w w'
set_option maxRecDepth 100000 in
set_option maxHeartbeats 1000000 in
theorem laws_toDir (r st : Int) (p : Bs) (nv : Value) (names : List Bs) (D : Nat → Prop) (w : World) (hr : StrsIn w D nv names) (hl : names.length ≤ 1048576) :
    Calls Try.prog 102 #[.agg #[.int .i64 r, .string (mk p), .int .i64 st, nv]] w (NewDr ⟨r, p, st, names⟩ w) := by
  have Hr := Lib.hid hr
  obtain ⟨aa, ca, rfl, hlc, hm⟩ := hr.len
  unfold maxLen at hm
  clear hr
  go_enter Try.func102, Try.ntmps102
  go_wp2_with (go_at_call 129; refine (laws_toStringSD _ names D _ (Hr.out.below (by (repeat (with_reducible first | exact Below.refl _ _ | assumption | refine ba ?_ _ | refine bd ?_ | refine bdN ?_ _ | refine bs ?_ (by first | exact Nat.le_refl _ | (dsimp only; omega) | (simp; done)) _ | refine bt ?_ (by assumption))))) hl).mono ?_; rintro _ w5 ⟨v5, rfl, hown5, hb5⟩; obtain ⟨hc, hf, hs⟩ := bcell hb5; have Hown5 := Lib.hid hown5; obtain ⟨a5, c5, hv5⟩ := owns_shape hown5; clear hown5; subst hv5)
  refine bodyPost_ret (v := drV (⟨r, p, st, names⟩, .slice a5 names.length c5)) (by simp [results, Try.results102, go_sem, drV, hc, hs]) rfl ⟨_, rfl, ?_, by (repeat (with_reducible first | exact Below.refl _ _ | assumption | refine ba ?_ _ | refine bd ?_ | refine bdN ?_ _ | refine bs ?_ (by first | exact Nat.le_refl _ | (dsimp only; omega) | (simp; done)) _ | refine bt ?_ (by assumption)))⟩
  refine owns_mono (B := w.heap.size + 3) ?_ (by omega)
  (repeat (with_reducible first | refine World.ownsRow.alloc ?_ _ | refine owns_set_low ?_ (by first | (dsimp only; omega) | (simp; done) | (simp; omega)) _))
  exact owns_mono Hown5.out (by simp)
theorem infoDir : (Try.prog.info? 72).map (fun i => (i.zero, i.size, i.bytes)) = some (some (.agg #[.int .i64 0, .string ByteArray.empty, .int .i64 0, .slice none 0 0]), 4, 56) := by kernel_rfl
/-- The names of directories lie in rows of their own, no two in one. -/
def OwnNames (w : World) (B : Nat) (ps : List (Dr × Value)) : Prop :=
  (∀ p ∈ ps, w.ownsRow B 9 1 p.2 p.1.names.length (p.1.names.map sv)) ∧ ps.Pairwise (fun p q => ∀ b, p.2.ownBlock = some b → q.2.ownBlock ≠ some b)
/-- The slice v and the names of its directories are rows of the call's own. -/
def OwnDirs (w : World) (B : Nat) (v : Value) (ps : List (Dr × Value)) : Prop :=
  w.ownsRow B 72 4 v ps.length (ps.flatMap drCells) ∧ OwnNames w B ps
theorem OwnNames.nil (w : World) (B : Nat) : OwnNames w B [] := ⟨by simp, List.Pairwise.nil⟩
theorem OwnNames.heap {w w' : World} {B : Nat} {ps : List (Dr × Value)} (h : OwnNames w B ps) (hk : ∀ b, B ≤ b → b < w.heap.size → (∃ p ∈ ps, p.2.ownBlock = some b) → w'.heap[b]? = w.heap[b]?) : OwnNames w' B ps :=
  ⟨fun p hp => owns_heap (h.1 p hp) (fun b hb => hk b (owns_block (h.1 p hp) hb).1 (owns_block (h.1 p hp) hb).2 ⟨p, hp, hb⟩), h.2⟩
theorem OwnNames.below {w w' : World} {B : Nat} {ps : List (Dr × Value)} (h : OwnNames w B ps) (hb : Below w.heap.size w w') : OwnNames w' B ps := h.heap (fun b _ hlt _ => hb.block b hlt)
theorem OwnNames.mono {w : World} {B B' : Nat} {ps : List (Dr × Value)} (h : OwnNames w B ps) (hB : B' ≤ B) : OwnNames w B' ps := ⟨fun p hp => owns_mono (h.1 p hp) hB, h.2⟩
theorem OwnNames.set_low {w : World} {B : Nat} {ps : List (Dr × Value)} (h : OwnNames w B ps) {p : Addr} (hp : p.block < B) (u : Value) : OwnNames (w.setCell p u) B ps :=
  h.heap (fun b hb _ _ => Below.heap_setCell w p u b (by omega))
theorem OwnNames.snoc {w w' : World} {B : Nat} {ps : List (Dr × Value)} {q : Dr × Value} (h : OwnNames w B ps) (hb : Below w.heap.size w w') (hB : B ≤ w.heap.size)
    (hq : w'.ownsRow w.heap.size 9 1 q.2 q.1.names.length (q.1.names.map sv)) : OwnNames w' B (ps ++ [q]) := by
  refine ⟨fun p hp => ?_, ?_⟩
  · rcases List.mem_append.1 hp with hp | hp
    · exact (h.below hb).1 p hp
    · simp at hp; subst hp; exact owns_mono hq hB
  · rw [List.pairwise_append]
    refine ⟨h.2, by simp, fun p hp x hx b hpb => ?_⟩
    simp at hx; subst hx
    intro hxb
    have h1 := owns_block (h.1 p hp) hpb
    have h2 := owns_block hq hxb
    omega
theorem OwnNames.strs {w : World} {B : Nat} {ps : List (Dr × Value)} (h : OwnNames w B ps) {D : Nat → Prop} (hD : ∀ g, B ≤ g → D g) : ∀ p ∈ ps, StrsIn w D p.2 p.1.names := fun p hp => StrsIn.of_owns (h.1 p hp) hD
theorem OwnDirs.dirs {w : World} {B : Nat} {v : Value} {ps : List (Dr × Value)} (h : OwnDirs w B v ps) {D : Nat → Prop} (hD : ∀ g, B ≤ g → D g) : DirsIn w D v (ps.map (·.1)) := DirsIn.of_owns h.1 hD (h.2.strs hD)
theorem OwnDirs.below {w w' : World} {B : Nat} {v : Value} {ps : List (Dr × Value)} (h : OwnDirs w B v ps) (hb : Below w.heap.size w w') : OwnDirs w' B v ps := ⟨owns_below h.1 hb, h.2.below hb⟩
theorem OwnDirs.mono {w : World} {B B' : Nat} {v : Value} {ps : List (Dr × Value)} (h : OwnDirs w B v ps) (hB : B' ≤ B) : OwnDirs w B' v ps := ⟨owns_mono h.1 hB, h.2.mono hB⟩
/-- What a function that returns new directories comes to. -/
def NewDirs (fs : List Dr) (w : World) (e : Ending) (w' : World) : Prop :=
  ∃ v ps, e = .returned v ∧ ps.map (·.1) = fs ∧ OwnDirs w' w.heap.size v ps ∧ Below w.heap.size w w'
theorem zipFillD {fs : List Dr} {ps : List (Dr × Value)} {i : Nat} (h : ps.map (·.1) = fs.take i) (hi : i ≤ fs.length) : ps.length = i := by
  have := congrArg List.length h
  simp at this; omega
theorem fill_put2d (ps : List (Dr × Value)) (z q : Dr × Value) (n : Nat) (h : 0 < n) : (ps ++ List.replicate n z).set ps.length q = ps ++ [q] ++ List.replicate (n - 1) z := by
  rw [List.set_append_right _ _ (Nat.le_refl _), Nat.sub_self, show n = (n - 1) + 1 by omega, List.replicate_succ, List.set_cons_zero, List.append_assoc]
  rfl
set_option maxRecDepth 100000 in
set_option maxHeartbeats 1000000 in
theorem laws_toDirS (v : Value) (fs : List Dr) (D : Nat → Prop) (w : World) (hr : DirsIn w D v fs) (hl : drsCost' fs) :
    Calls Try.prog 65 #[v] w (NewDirs fs w) := by
  obtain ⟨i0, hi, hz0, hz1, hz2⟩ := info_parts infoDir
  have Hr := Lib.hid hr
  obtain ⟨aa, ca, rfl, hlc, hm⟩ := hr.len
  unfold maxLen at hm
  have hlen := hl.1
  have Hl := Lib.hid hl.2
  have Hi := Lib.hid hi
  have Hz0 := Lib.hid hz0
  have Hz1 := Lib.hid hz1
  have Hz2 := Lib.hid hz2
  clear hr hi hz0 hz1 hz2 hl
  go_enter Try.func65, Try.ntmps65
  go_wp2_with (at_make; refine wpList_make_full _ rfl _ _ 26 rfl w.heap.size 72 i0 _ 4 Try.underlying26 Hi.out Hz0.out Hz1.out .i64 .i64 _ _ fs.length rfl rfl rfl rfl (by rw [Hz2.out]; omega) (by unfold maxLen; omega) (Nat.le_refl _) ?_; intro w1 hown1 hg1)
  have hown2 : w1.ownsRow w.heap.size 72 4 (.slice (some ⟨w.heap.size, 0, none⟩) fs.length fs.length) fs.length ((([] : List (Dr × Value)) ++ List.replicate (fs.length - 0) zeroDr).flatMap drCells) := by
    have e := made4 fs.length
    simp only [List.nil_append, Nat.sub_zero]
    rw [← e]; exact hown1
  have hb1 : Below w.heap.size w w1 := (Below.refl _ _).grown hg1 (Nat.le_refl _) (fun k hk => by cases hk)
  have hz1 : w.heap.size < w1.heap.size := by
    rcases hown2.2 with ⟨h, _⟩ | ⟨g, cap, cur, h1, _, h3, _⟩
    · cases h
    · simp only [Value.slice.injEq, Option.some.injEq, Addr.mk.injEq] at h1
      obtain ⟨⟨rfl, _⟩, _⟩ := h1
      exact (Array.getElem?_eq_some_iff.1 h3).1
  have Hown2 := Lib.hid hown2
  have Hb1 := Lib.hid hb1
  clear hown1 hown2 hg1 hb1
  go_wp2_with fail
  go_loopw [4] (fun iv wr => ∃ (i : Nat) (ps : List (Dr × Value)), i ≤ fs.length ∧ iv = .int .i64 i ∧ ps.map (·.1) = fs.take i ∧ wr.ownsRow w.heap.size 72 4 (.slice (some ⟨w.heap.size, 0, none⟩) fs.length fs.length) fs.length ((ps ++ List.replicate (fs.length - i) zeroDr).flatMap drCells) ∧ OwnNames wr (w.heap.size + 1) ps ∧ Below w.heap.size w wr ∧ w.heap.size < wr.heap.size) (fun iv _ => fs.length - (intOf iv).toNat)
  case atStart => exact ⟨0, [], by omega, rfl, rfl, Hown2.out, OwnNames.nil _ _, Hb1.out, hz1⟩
  case round =>
    obtain ⟨i, ps, hi, rfl, hps, ho, hbo, hbel, hsz⟩ := hrel
    have Ho := Lib.hid ho
    have Hps := Lib.hid hps
    have Hbo := Lib.hid hbo
    have Hpl := Lib.hid (zipFillD hps hi)
    clear ho hps hbo Hown2 Hb1 hz1
    by_cases hlt : i < fs.length
    · obtain ⟨b, off, cap, bv, e, hD, hb, hbody, c0, c1, c2, c3⟩ := (Hr.out.below hbel).at_ hlt
      simp only [Value.slice.injEq] at e
      obtain ⟨rfl, _, rfl⟩ := e
      obtain ⟨ba', bc', rfl, hbl, hbm⟩ := hbody.len
      have Hbody := Lib.hid hbody
      have Hbl := Lib.hid (Hl.out _ (List.getElem_mem hlt))
      have Hsn := Lib.hid (List.take_succ_eq_append_getElem hlt)
      obtain ⟨f, hf⟩ : ∃ f, f = fs[i] := ⟨_, rfl⟩
      rw [← hf] at c0 c1 c2 c3 Hbody Hbl Hsn
      clear hf hbody hbm hbl
      obtain ⟨fr, fp, fst, fb⟩ := f
      dsimp only at c0 c1 c2 c3
      have hrow : i < (ps ++ List.replicate (fs.length - i) zeroDr).length := by simp [Hpl.out]; omega
      have Hrow := Lib.hid hrow
      clear hrow
      go_wp2_with (go_at_call 102; refine (laws_toDir _ _ _ _ fb D _ (Hbody.out.below (by (repeat (with_reducible first | exact Below.refl _ _ | assumption | refine ba ?_ _ | refine bd ?_ | refine bdN ?_ _ | refine bs ?_ (by first | exact Nat.le_refl _ | (dsimp only; omega) | (simp; done)) _ | refine bt ?_ (by assumption))))) Hbl.out).mono ?_; rintro _ w5 ⟨v5, rfl, hown5, hb5⟩; have Hown5 := Lib.hid hown5; obtain ⟨a5, e5, hv5⟩ := owns_shape hown5; clear hown5; subst hv5; have ho5 := Lib.hid (owns_below Ho.out hb5); obtain ⟨⟨d0, d1, d2, d3⟩, g0, g1, g2, g3⟩ := own4 ho5.out i Hrow.out; unfold drV; dsimp only)
      have Hb6 := Lib.hid (show Below w.heap.size w w5 by (repeat (with_reducible first | exact Below.refl _ _ | assumption | refine ba ?_ _ | refine bd ?_ | refine bdN ?_ _ | refine bs ?_ (by first | exact Nat.le_refl _ | (dsimp only; omega) | (simp; done)) _ | refine bt ?_ (by assumption))))
      have Hput := Lib.hid (own4_put ho5.out i Hrow.out (⟨fr, fp, fst, fb⟩, .slice a5 fb.length e5))
      have Hps2 := Lib.hid (show (ps ++ [((⟨fr, fp, fst, fb⟩ : Dr), Value.slice a5 fb.length e5)]).map (·.1) = fs.take (i + 1) by rw [List.map_append, Hps.out, Hsn.out]; rfl)
      have Hbo2 := Lib.hid (OwnNames.snoc (q := ((⟨fr, fp, fst, fb⟩ : Dr), Value.slice a5 fb.length e5)) Hbo.out hb5 (show w.heap.size + 1 ≤ wr.heap.size by omega) Hown5.out)
      have hfp := fill_put2d ps zeroDr (⟨fr, fp, fst, fb⟩, .slice a5 fb.length e5) (fs.length - i) (by omega)
      rw [Hpl.out] at hfp
      rw [hfp, show fs.length - i - 1 = fs.length - (i + 1) by omega] at Hput
      have hs5 := hb5.size
      have Hs5 := Lib.hid (show w.heap.size < w5.heap.size by omega)
      clear hfp hs5
      go_roundw
      case rel =>
        refine ⟨i + 1, ps ++ [((⟨fr, fp, fst, fb⟩ : Dr), Value.slice a5 fb.length e5)], by omega, by go_num, Hps2.out, Hput.out, ?_, ?_, ?_⟩
        · exact (((Hbo2.out.set_low (by dsimp only; omega) _).set_low (by dsimp only; omega) _).set_low (by dsimp only; omega) _).set_low (by dsimp only; omega) _
        · have h6 := Hb6.out
          (repeat (with_reducible first | exact Below.refl _ _ | assumption | refine ba ?_ _ | refine bd ?_ | refine bdN ?_ _ | refine bs ?_ (by first | exact Nat.le_refl _ | (dsimp only; omega) | (simp; done)) _ | refine bt ?_ (by assumption)))
        · have := Hs5.out
          simpa using this
      case measure => simp [intOf]; omega
    · obtain rfl : i = fs.length := by omega
      have Hmap := Lib.hid (show ps.map (·.1) = fs by rw [Hps.out, List.take_length])
      have Ho2 := Lib.hid (show OwnDirs wr w.heap.size (.slice (some ⟨w.heap.size, 0, none⟩) fs.length fs.length) ps from ⟨by have := Ho.out; rw [Hpl.out]; simpa using this, Hbo.out.mono (by omega)⟩)
      go_wp2_with fail
      go_ret
      exact ⟨_, ps, rfl, Hmap.out, Ho2.out, hbel⟩
theorem OwnDirs.set_low {w : World} {B : Nat} {v : Value} {ps : List (Dr × Value)} (h : OwnDirs w B v ps) {p : Addr} (hp : p.block < B) (u : Value) : OwnDirs (w.setCell p u) B v ps := ⟨owns_set_low h.1 hp u, h.2.set_low hp u⟩
theorem OwnDirs.len {w : World} {B : Nat} {v : Value} {ps : List (Dr × Value)} (h : OwnDirs w B v ps) : ∃ a cap, v = .slice a ps.length cap := owns_shape h.1

/-! ### What came in. -/
section
variable {H : Type} {enc : TypeId × Value → H} {w : World} {spare : Nat → Bool} {held : Bool}
theorem rcDir : Try.prog.cellsOf 131 = 4 := by kernel_rfl
theorem rcTxts : Try.prog.cellsOf 70 = 1 := by kernel_rfl
theorem rcI : Try.prog.cellsOf 3 = 1 := by kernel_rfl
theorem rcT : Try.prog.cellsOf 9 = 1 := by kernel_rfl
set_option maxRecDepth 100000 in
theorem read_txts {n : Nat} {cs : List Value} {x : DataW H × List MemPlace} (h : DataW.trod enc Try.prog w 0 spare held n 70 cs = some x) :
    ∃ (a : Option Addr) (len cap : Nat) (xs : List Bs), cs = [.slice a len cap] ∧ xs.length = len ∧ StrsIn w (fun _ => True) (.slice a len cap) xs ∧ ShortS maxLen xs := by
  rcases open_slice Try.underlying70 h with ⟨rfl, _⟩ | ⟨a, len, cap, m, k, D, Pl, rfl, _, hl, hm, hmm, _, hi⟩
  · exact ⟨none, 0, 0, [], rfl, rfl, ⟨none, 0, rfl, by simp, by unfold maxLen; omega, fun hx => absurd hx (by simp)⟩, fun s hs => by cases hs⟩
  · rw [rcT] at hi
    have hlm : len ≤ m := by rw [hmm]; split <;> omega
    obtain ⟨F, hF⟩ := pick_lt (α := Bs) [] (p := fun i s => w.cells? 0 (a.add (i * 1)) 1 = some [.string (mk s)] ∧ s.length ≤ maxLen) (n := m) (fun i him => by
      obtain ⟨cs', h1, h2⟩ := hi i him
      obtain ⟨s, rfl, h3⟩ := read_text Try.underlying9 h2 rfl
      exact ⟨s, h1, h3⟩)
    refine ⟨some a, len, cap, (List.range len).map F, rfl, by simp, ⟨some a, cap, by simp, by simpa using hl, hm, fun hx => ?_⟩, fun s hs => ?_⟩
    · have hx' : 0 < len := by simpa using hx
      obtain ⟨_, _, hc0⟩ := World.cells?_some (hF 0 (by omega)).1
      have hc00 : w.cell? (a.add 0) = some (.string (mk (F 0))) := by have := hc0 0 (by omega); rw [Go.Deep.add_add] at this; exact this
      obtain ⟨b, off, spot⟩ := a
      have hspot : spot = none := by simpa [Addr.add] using World.cell?_spot hc00
      subst hspot
      have hb : b < w.heap.size := by
        have h := World.block_lt_of_cell? w _ hc00
        simpa [Addr.add] using h
      refine ⟨b, off, rfl, trivial, hb, fun i hi' => ?_⟩
      have hil : i < len := by simpa using hi'
      obtain ⟨_, _, hc⟩ := World.cells?_some (hF i (by omega)).1
      simp only [add_none, Nat.mul_one] at hc
      simp only [List.getElem_map, List.getElem_range]
      exact hc 0 (by omega)
    · rw [List.mem_map] at hs
      obtain ⟨i, hi', rfl⟩ := hs
      rw [List.mem_range] at hi'
      exact (hF i (by omega)).2
def drOf (d : Dr) (nv : Value) : List Value := [.int .i64 d.root, .string (mk d.pack), .int .i64 d.stamp, nv]
set_option maxRecDepth 100000 in
theorem read_dr {n : Nat} {cs : List Value} {x : DataW H × List MemPlace} (h : DataW.trod enc Try.prog w 0 spare held n 131 cs = some x) :
    ∃ (d : Dr) (nv : Value), cs = drOf d nv ∧ StrsIn w (fun _ => True) nv d.names ∧ ShortR maxLen d := by
  obtain ⟨xs, m, _, _, hl, hxl, hf⟩ := DataW.trod_struct Try.underlying131 h
  rw [rcDir] at hl
  match cs, hl with
  | [c0, c1, c2, c3], _ =>
    have hs : ∀ i, i < 4 → (xs[i]?).isSome = true := fun i hi => by rw [List.getElem?_eq_getElem (by rw [hxl]; exact hi)]; rfl
    have f0 : DataW.trod enc Try.prog w 0 spare held m 3 [c0] = xs[0]? := by have h' := hf 0 _ rfl; simpa [rcI, rcT, rcTxts] using h'
    have f1 : DataW.trod enc Try.prog w 0 spare held m 9 [c1] = xs[1]? := by have h' := hf 1 _ rfl; simpa [rcI, rcT, rcTxts] using h'
    have f2 : DataW.trod enc Try.prog w 0 spare held m 3 [c2] = xs[2]? := by have h' := hf 2 _ rfl; simpa [rcI, rcT, rcTxts] using h'
    have f3 : DataW.trod enc Try.prog w 0 spare held m 70 [c3] = xs[3]? := by have h' := hf 3 _ rfl; simpa [rcI, rcT, rcTxts] using h'
    obtain ⟨k0, e0⟩ := read_int Try.underlying3 f0 (hs 0 (by omega))
    obtain ⟨l1, e1, b1⟩ := read_text Try.underlying9 f1 (hs 1 (by omega))
    obtain ⟨k2, e2⟩ := read_int Try.underlying3 f2 (hs 2 (by omega))
    obtain ⟨y3, hy3⟩ := Option.isSome_iff_exists.1 (hs 3 (by omega))
    obtain ⟨a, len, cap, ss, e3, _, h6, h7⟩ := read_txts (f3.trans hy3)
    simp at e0 e1 e2 e3
    subst e0 e1 e2 e3
    exact ⟨⟨k0, l1, k2, ss⟩, _, rfl, h6, b1, h7⟩
theorem read_drs {n : Nat} {cs : List Value} {x : DataW H × List MemPlace} (h : DataW.trod enc Try.prog w 0 spare held n 46 cs = some x) :
    ∃ (a : Option Addr) (len cap : Nat) (ds : List Dr), cs = [.slice a len cap] ∧ ds.length = len ∧ DirsIn w (fun _ => True) (.slice a len cap) ds ∧ ShortD maxLen ds := by
  rcases open_slice Try.underlying46 h with ⟨rfl, _⟩ | ⟨a, len, cap, m, k, D, Pl, rfl, _, hl, hm, hmm, _, hi⟩
  · exact ⟨none, 0, 0, [], rfl, rfl, ⟨none, 0, rfl, by simp, by unfold maxLen; omega, fun hx => absurd hx (by simp)⟩, fun s hs => by cases hs⟩
  · rw [rcDir] at hi
    have hlm : len ≤ m := by rw [hmm]; split <;> omega
    obtain ⟨F, hF⟩ := pick_lt (α := Dr × Value) (⟨0, [], 0, []⟩, .slice none 0 0) (p := fun i p => w.cells? 0 (a.add (i * 4)) 4 = some (drOf p.1 p.2) ∧ StrsIn w (fun _ => True) p.2 p.1.names ∧ ShortR maxLen p.1) (n := m) (fun i him => by
      obtain ⟨cs', h1, h2⟩ := hi i him
      obtain ⟨f, bv, rfl, h3, h4⟩ := read_dr h2
      exact ⟨(f, bv), h1, h3, h4⟩)
    refine ⟨some a, len, cap, (List.range len).map (fun i => (F i).1), rfl, by simp, ⟨some a, cap, by simp, by simpa using hl, hm, fun hx => ?_⟩, fun s hs => ?_⟩
    · have hx' : 0 < len := by simpa using hx
      obtain ⟨_, _, hc0⟩ := World.cells?_some (hF 0 (by omega)).1
      have hc00 : w.cell? (a.add 0) = some (.int .i64 (F 0).1.root) := by have := hc0 0 (by omega); rw [Go.Deep.add_add] at this; exact this
      obtain ⟨b, off, spot⟩ := a
      have hspot : spot = none := by simpa [Addr.add] using World.cell?_spot hc00
      subst hspot
      have hb : b < w.heap.size := by
        have h := World.block_lt_of_cell? w _ hc00
        simpa [Addr.add] using h
      refine ⟨b, off, rfl, trivial, hb, fun i hi' => ?_⟩
      have hil : i < len := by simpa using hi'
      obtain ⟨_, _, hc⟩ := World.cells?_some (hF i (by omega)).1
      simp only [add_none] at hc
      simp only [List.getElem_map, List.getElem_range]
      exact ⟨(F i).2, (hF i (by omega)).2.1, hc 0 (by omega), hc 1 (by omega), hc 2 (by omega), hc 3 (by omega)⟩
    · rw [List.mem_map] at hs
      obtain ⟨i, hi', rfl⟩ := hs
      rw [List.mem_range] at hi'
      exact (hF i (by omega)).2.2
theorem rcDirs : Try.prog.cellsOf 46 = 1 := by kernel_rfl
theorem rcDisk : Try.prog.cellsOf 48 = 3 := by kernel_rfl
theorem rcTreeK : Try.prog.cellsOf 45 = 1 := by kernel_rfl
set_option maxRecDepth 100000 in
theorem read_disk {n : Nat} {cs : List Value} {x : DataW H × List MemPlace} (h : DataW.trod enc Try.prog w 0 spare held n 48 cs = some x) :
    ∃ (a : Option Addr) (len cap : Nat) (fs : List Fil) (c : Int) (a' : Option Addr) (len' cap' : Nat) (ds : List Dr), cs = [.slice a len cap, .int .i64 c, .slice a' len' cap'] ∧ FilsIn w (fun _ => True) (.slice a len cap) fs ∧ ShortT maxLen fs ∧ DirsIn w (fun _ => True) (.slice a' len' cap') ds ∧ ShortD maxLen ds := by
  obtain ⟨xs, m, _, _, hl, hxl, hf⟩ := DataW.trod_struct Try.underlying48 h
  rw [rcDisk] at hl
  match cs, hl with
  | [c0, c1, c2], _ =>
    have hs : ∀ i, i < 3 → (xs[i]?).isSome = true := fun i hi => by rw [List.getElem?_eq_getElem (by rw [hxl]; exact hi)]; rfl
    have f0 : DataW.trod enc Try.prog w 0 spare held m 45 [c0] = xs[0]? := by have h' := hf 0 _ rfl; simpa [rcI, rcTreeK, rcDirs] using h'
    have f1 : DataW.trod enc Try.prog w 0 spare held m 3 [c1] = xs[1]? := by have h' := hf 1 _ rfl; simpa [rcI, rcTreeK, rcDirs] using h'
    have f2 : DataW.trod enc Try.prog w 0 spare held m 46 [c2] = xs[2]? := by have h' := hf 2 _ rfl; simpa [rcI, rcTreeK, rcDirs] using h'
    obtain ⟨y0, hy0⟩ := Option.isSome_iff_exists.1 (hs 0 (by omega))
    obtain ⟨a, len, cap, fs, e0, h1, h2⟩ := read_tree (f0.trans hy0)
    obtain ⟨k1, e1⟩ := read_int Try.underlying3 f1 (hs 1 (by omega))
    obtain ⟨y2, hy2⟩ := Option.isSome_iff_exists.1 (hs 2 (by omega))
    obtain ⟨a', len', cap', ds, e2, _, h3, h4⟩ := read_drs (f2.trans hy2)
    simp at e0 e1 e2
    subst e0 e1 e2
    exact ⟨a, len, cap, fs, k1, a', len', cap', ds, rfl, h1, h2, h3, h4⟩
end

/-! ### Disks and finders. -/
set_option maxRecDepth 100000 in
set_option maxHeartbeats 1000000 in
theorem laws_szDisk (v : Value) (fs : List Fil) (c : Int) (u : Value) (ds : List Dr) (D D' : Nat → Prop) (left : Nat) (w : World) (hr : FilsIn w D v fs) (hz : ShortT maxLen fs) (hr' : DirsIn w D' u ds) (hz' : ShortD maxLen ds) (hl : left ≤ 1048576) :
    Calls Try.prog 18 #[.agg #[v, .int .i64 c, u], .int .i64 left] w (SzB (filsCost fs + drsCost ds) left w) := by
  have Hr := Lib.hid hr
  have Hz := Lib.hid hz
  have Hr' := Lib.hid hr'
  have Hz' := Lib.hid hz'
  obtain ⟨aa, ca, rfl, hlc, hm⟩ := hr.len
  obtain ⟨aa', ca', rfl, hlc', hm'⟩ := hr'.len
  clear hr hz hm hr' hz' hm'
  go_enter Try.func18, Try.ntmps18
  go_wp2_with fail
  refine (laws_szTree _ fs D left _ (Hr.out.below (by (repeat (with_reducible first | exact Below.refl _ _ | assumption | refine ba ?_ _ | refine bd ?_ | refine bdN ?_ _ | refine bs ?_ (by first | exact Nat.le_refl _ | (dsimp only; omega) | (simp; done)) _ | refine bt ?_ (by assumption))))) Hz.out hl).mono ?_
  rintro _ w1 ⟨r, rfl, hr, hb1⟩
  have Hx1 := Lib.hid ((Boxed.start w #[.slice aa fs.length ca, .int .i64 c, .slice aa' ds.length ca'] 48).step (show Below _ _ w1 by (repeat (with_reducible first | exact Below.refl _ _ | assumption | refine ba ?_ _ | refine bd ?_ | refine bdN ?_ _ | refine bs ?_ (by first | exact Nat.le_refl _ | (dsimp only; omega) | (simp; done)) _ | refine bt ?_ (by assumption)))))
  have k2 : w1.cell? ⟨w.heap.size, 2, none⟩ = some (.slice aa' ds.length ca') := Hx1.out.cell 2
  by_cases h1 : r < 0
  · go_wp2_with fail
    go_ret
    exact ⟨-1, rfl, .inr rfl, Hx1.out.below⟩
  · obtain ⟨R, rfl⟩ := Int.eq_ofNat_of_zero_le (show 0 ≤ r by omega)
    have hR : R + filsCost fs ≤ left := by omega
    have HR := Lib.hid hR
    have hRl : R ≤ 1048576 := by omega
    clear hr hR
    go_wp2_with fail
    refine (laws_szDirS _ ds D' R _ (Hr'.out.below (bt Hx1.out.below (by (repeat (with_reducible first | exact Below.refl _ _ | assumption | refine ba ?_ _ | refine bd ?_ | refine bdN ?_ _ | refine bs ?_ (by first | exact Nat.le_refl _ | (dsimp only; omega) | (simp; done)) _ | refine bt ?_ (by assumption)))))) Hz'.out hRl).mono ?_
    rintro _ w2 ⟨r2, rfl, hr2, hb2⟩
    have Hb2 := Lib.hid (bt Hx1.out.below (show Below w1.heap.size w1 w2 by (repeat (with_reducible first | exact Below.refl _ _ | assumption | refine ba ?_ _ | refine bd ?_ | refine bdN ?_ _ | refine bs ?_ (by first | exact Nat.le_refl _ | (dsimp only; omega) | (simp; done)) _ | refine bt ?_ (by assumption)))))
    by_cases h2 : r2 < 0
    · go_wp2_with fail
      go_ret
      exact ⟨-1, rfl, .inr rfl, Hb2.out⟩
    · go_wp2_with fail
      go_ret
      refine ⟨_, rfl, .inl ⟨by omega, ?_⟩, Hb2.out⟩
      have := HR.out
      omega
set_option maxRecDepth 100000 in
set_option maxHeartbeats 1000000 in
theorem laws_eqDisk (v v' : Value) (fs fs' : List Fil) (c c' : Int) (u u' : Value) (ds ds' : List Dr) (D D' E E' : Nat → Prop) (w : World) (hr : FilsIn w D v fs) (hr' : FilsIn w D' v' fs') (hd : DirsIn w E u ds) (hd' : DirsIn w E' u' ds') :
    Calls Try.prog 24 #[.agg #[v, .int .i64 c, u], .agg #[v', .int .i64 c', u']] w fun e w' => e = .returned (.bool (sameFils fs fs' && decide (c = c') && sameDrs ds ds')) ∧ Below w.heap.size w w' := by
  have Hr := Lib.hid hr
  have Hr' := Lib.hid hr'
  have Hd := Lib.hid hd
  have Hd' := Lib.hid hd'
  obtain ⟨aa, ca, rfl, hl, hm⟩ := hr.len
  obtain ⟨aa', ca', rfl, hl', hm'⟩ := hr'.len
  obtain ⟨ab, cb, rfl, hl2, hm2⟩ := hd.len
  obtain ⟨ab', cb', rfl, hl2', hm2'⟩ := hd'.len
  clear hr hr' hd hd' hl hm hl' hm' hl2 hm2 hl2' hm2'
  go_enter Try.func24, Try.ntmps24
  go_wp2_with (first
    | (go_at_call 68; refine (laws_eqTree _ _ fs fs' D D' _ (Hr.out.below (by (repeat (with_reducible first | exact Below.refl _ _ | assumption | refine ba ?_ _ | refine bd ?_ | refine bdN ?_ _ | refine bs ?_ (by first | exact Nat.le_refl _ | (dsimp only; omega) | (simp; done)) _ | refine bt ?_ (by assumption))))) (Hr'.out.below (by (repeat (with_reducible first | exact Below.refl _ _ | assumption | refine ba ?_ _ | refine bd ?_ | refine bdN ?_ _ | refine bs ?_ (by first | exact Nat.le_refl _ | (dsimp only; omega) | (simp; done)) _ | refine bt ?_ (by assumption)))))).mono ?_; (rintro _ _ ⟨rfl, hb⟩; obtain ⟨hc, hf, hs⟩ := bcell hb))
    | (go_at_call 69; refine (laws_eqDirS _ _ ds ds' E E' _ (Hd.out.below (by (repeat (with_reducible first | exact Below.refl _ _ | assumption | refine ba ?_ _ | refine bd ?_ | refine bdN ?_ _ | refine bs ?_ (by first | exact Nat.le_refl _ | (dsimp only; omega) | (simp; done)) _ | refine bt ?_ (by assumption))))) (Hd'.out.below (by (repeat (with_reducible first | exact Below.refl _ _ | assumption | refine ba ?_ _ | refine bd ?_ | refine bdN ?_ _ | refine bs ?_ (by first | exact Nat.le_refl _ | (dsimp only; omega) | (simp; done)) _ | refine bt ?_ (by assumption)))))).mono ?_; rintro _ w7 ⟨rfl, hb7⟩; obtain ⟨hc7, hf7, hs7⟩ := bcell hb7))
  all_goals (go_ret; refine ⟨ret_bool ?_, by (repeat (with_reducible first | exact Below.refl _ _ | assumption | refine ba ?_ _ | refine bd ?_ | refine bdN ?_ _ | refine bs ?_ (by first | exact Nat.le_refl _ | (dsimp only; omega) | (simp; done)) _ | refine bt ?_ (by assumption)))⟩; simp_all [beq_dec, bne_int])
end Go.Proofs.Ytgecemngfpgcoaa
