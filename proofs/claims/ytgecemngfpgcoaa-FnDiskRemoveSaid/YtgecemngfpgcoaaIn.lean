/- Lists of texts that came in: what they read as. -/
import Derived.Test.YtgecemngfpgcoaaTools
import Derived.SliceStrings
set_option linter.unusedVariables false
set_option linter.unusedSimpArgs false
namespace Go.Proofs.Ytgecemngfpgcoaa.Nm
open Go.RowKit Go.ChangeShapes Go.WideShapes

/-- The slice v reads as the texts xs in w; nothing is said of an empty one's address. -/
def ReadsIn (w : World) (v : Value) (xs : List Bs) : Prop :=
  ∃ a cap, v = .slice a xs.length cap ∧ xs.length ≤ cap ∧ cap ≤ maxLen ∧
    (0 < xs.length → ∃ b off, a = some ⟨b, off, none⟩ ∧ b < w.heap.size ∧ ∀ k (h : k < xs.length), w.cell? ⟨b, off + k, none⟩ = some (.string (mk xs[k])))

theorem ReadsIn.below {w w' : World} {v : Value} {xs : List Bs} (h : ReadsIn w v xs) (hb : Below w.heap.size w w') : ReadsIn w' v xs := by
  obtain ⟨a, cap, h1, h2, h3, h4⟩ := h
  refine ⟨a, cap, h1, h2, h3, fun hx => ?_⟩
  obtain ⟨b, off, e1, e2, e3⟩ := h4 hx
  refine ⟨b, off, e1, Nat.lt_of_lt_of_le e2 hb.size, fun k hk => ?_⟩
  rw [hb.cell (p := ⟨b, off + k, none⟩) e2]
  exact e3 k hk

theorem ReadsIn.of {w : World} {v : Value} {xs : List Bs} (h : Reads w v xs) : ReadsIn w v xs := by
  rcases h with ⟨rfl, rfl⟩ | ⟨b, off, cap, h1, h2, h3, h4, h5⟩
  · exact ⟨none, 0, rfl, by simp, by unfold maxLen; omega, fun h => absurd h (by simp)⟩
  · exact ⟨_, cap, h1, h2, h3, fun _ => ⟨b, off, rfl, h4, h5⟩⟩

/-- A list of texts that came in. -/
theorem strings_row {H : Type} {enc : TypeId × Value → H} {P : Program} {w : World} {spare : Nat → Bool} {held : Bool} {t e : TypeId} {fuel : Nat} {a : Option Addr} {len cap : Nat} {x : DataW H × List MemPlace}
    (ht : P.underlying t = some (.slice e)) (he : P.underlying e = some .string) (hc : P.cellsOf e = 1)
    (h : DataW.trod enc P w 0 spare held fuel t [.slice a len cap] = some x) :
    ∃ xs : List Bs, ReadsIn w (.slice a len cap) xs ∧ xs.length = len ∧ ∀ p ∈ xs, p.length ≤ maxLen := by
  rcases open_strings ht he hc h with ⟨h0, _⟩ | ⟨A, l, c, ss, hcs, _, hl, hm, hlen, _, hcell, hsz⟩
  · simp only [List.cons.injEq, Value.slice.injEq, and_true] at h0
    obtain ⟨rfl, rfl, rfl⟩ := h0
    exact ⟨[], ⟨none, 0, rfl, by simp, by unfold maxLen; omega, fun h => absurd h (by simp)⟩, rfl, by simp⟩
  · simp only [List.cons.injEq, Value.slice.injEq, and_true] at hcs
    obtain ⟨rfl, rfl, rfl⟩ := hcs
    have hle : len ≤ ss.length := by rw [hlen]; split <;> omega
    have hxl : ((ss.take len).map (fun s => s.data.toList)).length = len := by simp; omega
    refine ⟨(ss.take len).map (fun s => s.data.toList), ⟨some A, cap, by rw [hxl], by rw [hxl]; exact hl, hm, fun hx => ?_⟩, hxl, ?_⟩
    · rw [hxl] at hx
      have h0 := hcell 0 (by omega)
      obtain ⟨b, off, spot⟩ := A
      have hspot : spot = none := by simpa [Addr.add] using World.cell?_spot h0
      subst hspot
      have hb : b < w.heap.size := by
        have h := World.block_lt_of_cell? w _ h0
        simpa [Addr.add] using h
      refine ⟨b, off, rfl, hb, fun k hk => ?_⟩
      have hk' : k < len := by rw [hxl] at hk; exact hk
      have hci := hcell k (by omega)
      have hadd : (⟨b, off, none⟩ : Addr).add k = ⟨b, off + k, none⟩ := by unfold Addr.add; split <;> simp_all
      rw [hadd] at hci
      rw [hci]
      simp only [List.getElem_map, List.getElem_take]
      rw [List.getD_eq_getElem?_getD, List.getElem?_eq_getElem (by omega)]
      rfl
    · intro p hp
      rw [List.mem_map] at hp
      obtain ⟨s, hs, rfl⟩ := hp
      rw [list_len]
      exact hsz s (List.mem_of_mem_take hs)
end Go.Proofs.Ytgecemngfpgcoaa.Nm
