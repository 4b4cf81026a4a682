/- Words for walks over strings and slices of strings; nothing of the program's own code stands here. -/
import Derived.Test.YtgecemngfpgcoaaRows
import Derived.Test.YtgecemngfpgcoaaPlain
import Derived.WalkKit
import Derived.WalkLawsBesides
import Derived.WalkSpells
import Derived.BigCall
import Derived.BigQuiet
import Derived.Deep.QuietTactic
import Derived.Lib.Hide
import Derived.Lib.OthersKept
import Derived.WideShapes
import Derived.Lib.Strings
set_option linter.unusedVariables false
set_option linter.unusedSimpArgs false
namespace Go.Proofs.Ytgecemngfpgcoaa.Nm
open Go.RowKit

/-- A list of bytes as a string. -/
def mk (l : Bs) : ByteArray := ⟨l.toArray⟩
theorem mk_list (l : Bs) : (mk l).data.toList = l := rfl
theorem mk_of (s : ByteArray) : ∃ l, s = mk l := ⟨s.data.toList, by cases s; simp [mk]⟩
theorem list_len (s : ByteArray) : s.data.toList.length = s.size := Array.length_toList
@[go_sem] theorem mk_size (l : Bs) : (mk l).size = l.length := by rw [← list_len, mk_list]
@[go_sem] theorem mk_toList (l : Bs) : (mk l).toList = l := by rw [ByteArray.toList_eq, mk_list]
@[go_sem] theorem mk_append (a b : Bs) : mk a ++ mk b = mk (a ++ b) := by
  apply Go.WideShapes.bytes_inj; rw [mk_list]; simp [mk]
@[go_sem] theorem mk_extract (l : Bs) (i j : Nat) : (mk l).extract i j = mk ((l.drop i).take (j - i)) := by
  apply Go.WideShapes.bytes_inj; rw [mk_list, Lib.extract_data, mk_list]
theorem mk_inj {a b : Bs} (h : mk a = mk b) : a = b := by rw [← mk_list a, h, mk_list]
theorem mk_get (l : Bs) (i : Nat) (h : i < (mk l).size) : (mk l)[i] = l[i]'(by rw [← mk_size]; exact h) := rfl
theorem mk_dot : (⟨#[46]⟩ : ByteArray) = mk [46] := rfl
theorem mk_nil : (⟨#[]⟩ : ByteArray) = mk [] := rfl

theorem vp_false_at (l : Bs) (i : Nat) (h : i < l.length) (hl : lower l[i] = false) : vp l = false := by
  have : l.all lower = false := by
    rw [List.all_eq_false]; exact ⟨_, List.getElem_mem h, by simp [hl]⟩
  simp [vp, this]

theorem vp_true_of (l : Bs) (h1 : 1 ≤ l.length) (h3 : l.length ≤ 3) (ha : l.all lower = true) : vp l = true := by
  simp only [vp, ha, Bool.and_true]; simp; omega

theorem vp_long (l : Bs) (h3 : 3 < l.length) : vp l = false := by
  simp only [vp, Bool.and_eq_false_iff]; simp; omega

theorem lower_iff (c : UInt8) : lower c = true ↔ (97 ≤ (c.toNat : Int) ∧ (c.toNat : Int) ≤ 122) := by
  simp [lower]; omega

theorem all_take_succ (l : Bs) (i : Nat) (h : i < l.length) (ha : (l.take i).all lower = true) (hl : lower l[i] = true) : (l.take (i + 1)).all lower = true := by
  rw [List.take_succ_eq_append_getElem h, List.all_append, ha]; simp [hl]

theorem ret_bool {a b : Bool} (h : a = b) : Ending.returned (.bool a) = .returned (.bool b) := by rw [h]
theorem ret_str {a b : ByteArray} (h : a = b) : Ending.returned (.string a) = .returned (.string b) := by rw [h]

/-- A string as a cell's value. -/
def sv (p : Bs) : Value := .string (mk p)

/-- What a function that returns a new slice of strings comes to: the slice is nil or the call's own, reads as xs, and nothing that was there has turned. -/
def NewStrs (T : TypeId) (xs : List Bs) (w : World) (e : Ending) (w' : World) : Prop :=
  ∃ v, e = .returned v ∧ w'.ownsRow w.heap.size T 1 v xs.length (xs.map sv) ∧ Below w.heap.size w w'

theorem map_snoc (xs : List Bs) (p : Bs) : xs.map sv ++ [.string (mk p)] = (xs ++ [p]).map sv := by simp [sv]

theorem mk_skip (l : Bs) (pos : Nat) (h : pos < l.length) (ha : 128 ≤ (l[pos]).toNat) :
    pos + (Utf8.decode (mk l) pos).2 ≤ l.length ∧ ∀ j, pos ≤ j → (hj : j < l.length) → j < pos + (Utf8.decode (mk l) pos).2 → l[j] ≠ 46 := by
  have hlt' : pos < (mk l).size := by rw [mk_size]; exact h
  obtain ⟨h1, h2⟩ := decode_skip (mk l) pos hlt' (by rw [mk_get]; exact ha)
  rw [mk_size] at h1
  refine ⟨h1, fun j hj1 hj2 hj3 e => ?_⟩
  have := h2 (j - pos) (by omega)
  rw [show pos + (j - pos) = j by omega] at this
  have hg := get_at (mk l) j (by rw [mk_size]; exact hj2)
  rw [Nat.add_zero, mk_get, e] at hg
  rw [hg] at this
  revert this; decide

theorem mk_ascii (l : Bs) (k : Nat) (h : k < l.length) (ha : (l[k]).toNat < 128) : (Utf8.decode (mk l) k).1 = (l[k]).toNat ∧ (Utf8.decode (mk l) k).2 = 1 := by
  have hlt' : k < (mk l).size := by rw [mk_size]; exact h
  have hd := decode_ascii (mk l) k hlt' (by rw [mk_get]; exact ha)
  rw [hd, mk_get]
  exact ⟨rfl, rfl⟩

theorem mk_high (l : Bs) (k : Nat) (h : k < l.length) (ha : 128 ≤ (l[k]).toNat) : 128 ≤ (Utf8.decode (mk l) k).1 ∧ 1 ≤ (Utf8.decode (mk l) k).2 :=
  decode_high (mk l) k (by rw [mk_size]; exact h) (by rw [mk_get]; exact ha)

/-- The rune at place k is a dot that is a byte, or no dot, and then there is none among its bytes. -/
theorem mk_step (l : Bs) (k : Nat) (h : k < l.length) : 1 ≤ (Utf8.decode (mk l) k).2 ∧
    (((Utf8.decode (mk l) k).1 = 46 ∧ (Utf8.decode (mk l) k).2 = 1 ∧ l[k] = 46) ∨
      ((Utf8.decode (mk l) k).1 ≠ 46 ∧ k + (Utf8.decode (mk l) k).2 ≤ l.length ∧ ∀ j, k ≤ j → (h : j < l.length) → j < k + (Utf8.decode (mk l) k).2 → l[j] ≠ 46)) := by
  by_cases hasc : (l[k]).toNat < 128
  · obtain ⟨h1, h2⟩ := mk_ascii l k h hasc
    rw [h1, h2]
    refine ⟨Nat.le_refl _, ?_⟩
    by_cases hc : l[k] = 46
    · exact .inl ⟨by rw [hc]; rfl, rfl, hc⟩
    · refine .inr ⟨fun e => hc (UInt8.toNat_inj.1 (by simpa using e)), by omega, fun j h1 h2 h3 => ?_⟩
      obtain rfl : j = k := by omega
      exact hc
  · obtain ⟨h1, h2⟩ := mk_high l k h (by omega)
    obtain ⟨h3, h4⟩ := mk_skip l k h (by omega)
    exact ⟨h2, .inr ⟨by omega, h3, h4⟩⟩

theorem owns_mono {w : World} {B B' : Nat} {e : TypeId} {size : Nat} {v : Value} {n : Nat} {xs : List Value} (h : w.ownsRow B e size v n xs) (hB : B' ≤ B) : w.ownsRow B' e size v n xs := by
  refine ⟨h.1, ?_⟩
  rcases h.2 with h2 | ⟨g, cap, cur, a, b, c⟩
  · exact .inl h2
  · exact .inr ⟨g, cap, cur, a, by omega, c⟩

/-- The slice v reads as the strings xs in w. -/
def Reads (w : World) (v : Value) (xs : List Bs) : Prop :=
  (v = .slice none 0 0 ∧ xs = []) ∨ ∃ b off cap, v = .slice (some ⟨b, off, none⟩) xs.length cap ∧ xs.length ≤ cap ∧ cap ≤ maxLen ∧ b < w.heap.size ∧
    ∀ k (h : k < xs.length), w.cell? ⟨b, off + k, none⟩ = some (.string (mk xs[k]))

theorem Reads.below {w w' : World} {v : Value} {xs : List Bs} (h : Reads w v xs) (hb : Below w.heap.size w w') : Reads w' v xs := by
  rcases h with h | ⟨b, off, cap, h1, h2, h3, h4, h5⟩
  · exact .inl h
  · refine .inr ⟨b, off, cap, h1, h2, h3, Nat.lt_of_lt_of_le h4 hb.size, fun k hk => ?_⟩
    rw [hb.cell (p := ⟨b, off + k, none⟩) h4]
    exact h5 k hk

theorem Reads.of_owns {w : World} {B : Nat} {e : TypeId} {v : Value} {xs : List Bs} (h : w.ownsRow B e 1 v xs.length (xs.map sv)) : Reads w v xs := by
  rcases h.2 with ⟨h1, h2⟩ | ⟨g, cap, cur, h1, h2, h3, h4, h5, h6, h7⟩
  · exact .inl ⟨h1, List.length_eq_zero_iff.1 h2⟩
  · refine .inr ⟨g, 0, cap, h1, h4, h5, (Array.getElem?_eq_some_iff.1 h3).1, fun k hk => ?_⟩
    have := h.cells (g := g) (by rw [h1]; rfl) k (.string (mk xs[k])) (by rw [List.getElem?_map, List.getElem?_eq_getElem hk]; rfl)
    have hadd : (⟨g, 0, none⟩ : Addr).add k = ⟨g, 0 + k, none⟩ := by unfold Addr.add; split <;> simp_all
    rw [hadd] at this
    exact this

theorem vps_false_at (xs : List Bs) (k : Nat) (h : k < xs.length) (hv : vp xs[k] = false) : vps xs = false := by
  rw [Bool.eq_false_iff]; intro h'; have := (vps_iff.1 h').2 _ (List.getElem_mem h); rw [hv] at this; cases this

theorem vps_long (xs : List Bs) (h : 3 < xs.length) : vps xs = false := by
  rw [Bool.eq_false_iff]; intro h'; have := (vps_iff.1 h').1; omega

theorem vps_true_of (xs : List Bs) (h1 : 1 ≤ xs.length) (h3 : xs.length ≤ 3) (ha : ∀ i (h : i < xs.length), vp xs[i] = true) : vps xs = true := by
  refine vps_iff.2 ⟨⟨h1, h3⟩, fun p hp => ?_⟩
  obtain ⟨i, hi, rfl⟩ := List.getElem_of_mem hp
  exact ha i hi

/-- What a slice that is read and not empty looks like. -/
theorem Reads.some {w : World} {v : Value} {xs : List Bs} (h : Reads w v xs) (hx : 1 ≤ xs.length) :
    ∃ b off cap, v = .slice (some ⟨b, off, none⟩) xs.length cap ∧ xs.length ≤ cap ∧ cap ≤ maxLen ∧ b < w.heap.size ∧ ∀ k (h : k < xs.length), w.cell? ⟨b, off + k, none⟩ = some (.string (mk xs[k])) := by
  rcases h with ⟨_, rfl⟩ | h
  · simp at hx
  · exact h

theorem vn_false_at (l : Bs) (k : Nat) (h : k < (split l).length) (hv : vp (split l)[k] = false) : vn l = false := vps_false_at _ k h hv
theorem vn_of (l : Bs) (ha : ∀ i (h : i < (split l).length), vp (split l)[i] = true) : vn l = decide ((split l).length ≤ 3) := by
  by_cases h3 : (split l).length ≤ 3
  · rw [decide_eq_true h3]; exact vps_true_of _ (split_pos l) h3 ha
  · rw [decide_eq_false h3]; exact vps_long _ (by omega)

@[go_sem] theorem mk_app_dot (t : Bs) : mk t ++ (⟨#[46]⟩ : ByteArray) = mk (t ++ [46]) := mk_append t [46]

/-- An owned row stays while nothing that was there turns. -/
theorem owns_below {w w' : World} {B : Nat} {e : TypeId} {size : Nat} {v : Value} {n : Nat} {xs : List Value} (h : w.ownsRow B e size v n xs) (hb : Below w.heap.size w w') : w'.ownsRow B e size v n xs := by
  refine ⟨h.1, ?_⟩
  rcases h.2 with h2 | ⟨g, cap, cur, a, b, c, d⟩
  · exact .inl h2
  · exact .inr ⟨g, cap, cur, a, b, by rw [hb.block g (Array.getElem?_eq_some_iff.1 c).1]; exact c, d⟩

theorem owns_shape {w : World} {B : Nat} {e : TypeId} {size : Nat} {v : Value} {n : Nat} {xs : List Value} (h : w.ownsRow B e size v n xs) : ∃ a cap, v = .slice a n cap := by
  rcases h.2 with ⟨rfl, rfl⟩ | ⟨g, cap, cur, rfl, _⟩
  · exact ⟨_, _, rfl⟩
  · exact ⟨_, _, rfl⟩

/-- A chain of calls, none of which turns what was there. -/
theorem bt {w a b : World} (h : Below w.heap.size w a) (k : Below a.heap.size a b) : Below w.heap.size w b := h.trans (k.mono h.size)

theorem front_reads {w : World} {b off cap : Nat} {xs : List Bs} (k : Nat) (hk : k ≤ xs.length) (hl : xs.length ≤ cap) (hm : cap ≤ maxLen) (hb : b < w.heap.size)
    (hc : ∀ i (h : i < xs.length), w.cell? ⟨b, off + i, none⟩ = some (.string (mk xs[i]))) : Reads w (.slice (some ⟨b, off, none⟩) k cap) (xs.take k) := by
  have e : (xs.take k).length = k := by simp; omega
  refine .inr ⟨b, off, cap, by rw [e], by omega, hm, hb, fun i hi => ?_⟩
  rw [hc i (by omega)]; simp

theorem eq_getElem {xs ys : List Bs} (h : xs.length = ys.length) (ha : ∀ i (h1 : i < xs.length) (h2 : i < ys.length), xs[i] = ys[i]) : xs = ys := List.ext_getElem h ha

theorem reads_lit (w : World) (xs : List Bs) (T : TypeId) (h : xs.length ≤ maxLen) : Reads (w.alloc (.cells (xs.map sv).toArray T)) (.slice (some ⟨w.heap.size, 0, none⟩) xs.length xs.length) xs := by
  refine .inr ⟨w.heap.size, 0, xs.length, rfl, Nat.le_refl _, h, by simp, fun k hk => ?_⟩
  have e : (w.alloc (.cells (xs.map sv).toArray T)).heap[w.heap.size]? = some (.cells (xs.map sv).toArray T (0, 0)) := by
    show (w.heap.push (Obj.cells (xs.map sv).toArray T (0, 0)))[w.heap.size]? = _
    simp
  simp only [World.cell?, e]
  simp [hk, sv]

end Go.Proofs.Ytgecemngfpgcoaa.Nm
