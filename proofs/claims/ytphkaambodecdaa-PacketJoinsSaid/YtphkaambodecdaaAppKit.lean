/- Slices that are appended to: bytes and numbers; strings of bytes made so. -/
import Derived.Test.YtphkaambodecdaaGalRow
import Derived.RangeFuncBox
namespace Go.Proofs.Ytphkaambodecdaa
open Go.RowKit
set_option linter.unusedVariables false

theorem ls (s : ByteArray) : s.data.toList.length = s.size := by simp
theorem coefs_size (f : Nat → BitVec 8) (n : Nat) : (⟨(Gal.coefs f n).toArray⟩ : ByteArray).size = n := by
  show (Gal.coefs f n).toArray.size = _
  rw [List.size_toArray, Gal.coefs_length]
theorem info_i64 : (Try.prog.info? 3).map (fun i => (i.zero, i.size, i.bytes)) = some (some (.int .i64 0), 1, 8) := by kernel_rfl
theorem info_u8 : (Try.prog.info? 5).map (fun i => (i.zero, i.size, i.bytes)) = some (some (.int .u8 0), 1, 1) := by kernel_rfl
def slen : Value → Nat
  | .slice _ n _ => n
  | _ => 0
theorem own_slen {w : World} {base e n : Nat} {v : Value} {xs : List Value} (h : w.ownsRow base e 1 v n xs) : slen v = n := by
  rcases h.2 with ⟨rfl, rfl⟩ | ⟨_, _, _, rfl, _⟩ <;> rfl
theorem own_block_ge {w : World} {base e size n g : Nat} {v : Value} {xs : List Value} (h : w.ownsRow base e size v n xs) (hg : v.ownBlock = some g) : base ≤ g := by
  rcases h.2 with ⟨rfl, _⟩ | ⟨g', c, _, rfl, hb, _⟩
  · cases hg
  · cases hg; exact hb
theorem cell_new_l (w : World) (v : Value) (t : TypeId) : (w.alloc (.cells #[v] t)).cell? ⟨w.heap.size, 0, none⟩ = some v ∧ (w.alloc (.cells #[v] t)).frozen? ⟨w.heap.size, 0, none⟩ = false := by
  constructor <;> go_simp
theorem cell_one {w : World} {v : Value} {t : TypeId} : ∀ j u, [v][j]? = some u → (w.alloc (.cells #[v] t)).cell? ((⟨w.heap.size, 0, none⟩ : Addr).add j) = some u := by
  intro j u hu
  have hj : j < 1 := by
    have := (List.getElem?_eq_some_iff.1 hu).1
    simpa using this
  obtain rfl : j = 0 := by omega
  have e : (⟨w.heap.size, 0, none⟩ : Addr).add 0 = ⟨w.heap.size, 0, none⟩ := by unfold Addr.add; split <;> simp_all
  rw [e]
  have := (cell_new_l w v t).1
  simp at hu
  subst hu
  exact this
/-- So many bytes as values. -/
def vals (f : Nat → BitVec 8) (n : Nat) : List Value := (List.range n).map (fun j => .int .u8 ((f j).toNat : Nat))
theorem vals_succ (f : Nat → BitVec 8) (n : Nat) : vals f (n + 1) = vals f n ++ [.int .u8 ((f n).toNat : Nat)] := by simp [vals, List.range_succ]
/-- A string made of a []byte that was appended to. -/
theorem own_back {w : World} {base : Nat} {v : Value} {n : Nat} {f : Nat → BitVec 8} (h : w.ownsRow base 5 1 v n (vals f n)) : (convert 73 9 v).run Try.prog w = .ok (.string ⟨(Gal.coefs f n).toArray⟩) w := by
  rcases h.2 with ⟨rfl, rfl⟩ | ⟨g, cap, cur, rfl, hb, hg, hnc, hm, hsz, ht⟩
  · rw [run_convert_bytes_string w 73 9 5 none 0 0 Try.underlying73 Try.underlying5 Try.underlying9]
    rfl
  · have hl := Gal.coefs_length f n
    have := run_convert_bytes_back (P := Try.prog) w 73 9 5 ⟨g, 0, none⟩ cap (Gal.coefs f n) Try.underlying73 Try.underlying5 Try.underlying9 (fun j hj => by
      have e : (⟨g, 0, none⟩ : Addr).add j = ⟨g, j, none⟩ := by unfold Addr.add; split <;> simp_all
      rw [hl] at hj
      have e1 : w.cell? ⟨g, j, none⟩ = cur[j]? := by
        unfold World.cell?
        rw [hg]
        simp
      have e2 : (cur.toList.take (n * 1))[j]? = cur[j]? := by
        rw [List.getElem?_take_of_lt (by omega)]
        simp
      rw [e, e1, ← e2, ht]
      simp [Gal.coefs, vals, hj])
    rwa [hl] at this
theorem own_keep {w w' : World} {base e size n : Nat} {v : Value} {xs : List Value} (h : w.ownsRow base e size v n xs) (hb : ∀ g, v.ownBlock = some g → g < w.heap.size → w'.heap[g]? = w.heap[g]?) : w'.ownsRow base e size v n xs := by
  obtain ⟨hl, h⟩ := h
  refine ⟨hl, ?_⟩
  rcases h with h | ⟨g, c, cur, rfl, h1, hg, h2⟩
  · exact .inl h
  · exact .inr ⟨g, c, cur, rfl, h1, (hb g rfl (Array.getElem?_eq_some_iff.1 hg).1).trans hg, h2⟩
theorem own_below {w w' : World} {base e size n : Nat} {v : Value} {xs : List Value} (h : w.ownsRow base e size v n xs) (hb : Below w.heap.size w w') : w'.ownsRow base e size v n xs :=
  own_keep h (fun g _ hg => hb.block g hg)
theorem own_mono {w : World} {base base' e size n : Nat} {v : Value} {xs : List Value} (h : w.ownsRow base e size v n xs) (hb : base' ≤ base) : w.ownsRow base' e size v n xs := by
  obtain ⟨hl, h⟩ := h
  refine ⟨hl, ?_⟩
  rcases h with h | ⟨g, c, cur, rfl, h1, h2⟩
  · exact .inl h
  · exact .inr ⟨g, c, cur, rfl, Nat.le_trans hb h1, h2⟩
/-- So many numbers of a kind as values. -/
def nlist (k : IntKind) (f : Nat → Nat) (n : Nat) : List Value := (List.range n).map (fun j => .int k (f j : Nat))
theorem nlist_succ (k : IntKind) (f : Nat → Nat) (n : Nat) : nlist k f (n + 1) = nlist k f n ++ [.int k (f n : Nat)] := by simp [nlist, List.range_succ]
theorem nlist_congr {k : IntKind} {f g : Nat → Nat} {n : Nat} (h : ∀ i, i < n → f i = g i) : nlist k f n = nlist k g n := by
  unfold nlist
  apply List.map_congr_left
  intro j hj
  rw [h j (by simpa using hj)]
theorem vals_congr {f g : Nat → BitVec 8} {n : Nat} (h : ∀ i, i < n → f i = g i) : vals f n = vals g n := by
  unfold vals
  apply List.map_congr_left
  intro j hj
  rw [h j (by simpa using hj)]
/-- The slice at a reads as n numbers. -/
def ReadsK (k : IntKind) (w : World) (a : Option Addr) (n : Nat) (f : Nat → Nat) : Prop := ∃ b, a = some ⟨b, 0, none⟩ ∧ b < w.heap.size ∧ ∀ j, j < n → w.cell? ⟨b, j, none⟩ = some (.int k (f j : Nat))
theorem ReadsK.below {k : IntKind} {w w' : World} {a : Option Addr} {n : Nat} {f : Nat → Nat} (h : ReadsK k w a n f) (hb : Below w.heap.size w w') : ReadsK k w' a n f := by
  obtain ⟨b, rfl, hl, hc⟩ := h
  exact ⟨b, rfl, Nat.lt_of_lt_of_le hl hb.size, fun j hj => (hb.cell (p := ⟨b, j, none⟩) hl).trans (hc j hj)⟩
theorem readsK_own {k : IntKind} {w : World} {base e : Nat} {v : Value} {n : Nat} {f : Nat → Nat} (hn : n ≠ 0) (h : w.ownsRow base e 1 v n (nlist k f n)) : ∃ a cap, v = .slice a n cap ∧ ReadsK k w a n f := by
  obtain ⟨hl, h⟩ := h
  rcases h with ⟨hv, h0⟩ | ⟨g, c, cur, hv, hb, hg, hnc, hm, hsz, ht⟩
  · exact absurd h0 hn
  · refine ⟨_, c, hv, g, rfl, (Array.getElem?_eq_some_iff.1 hg).1, fun j hj => ?_⟩
    have e1 : w.cell? ⟨g, j, none⟩ = cur[j]? := by
      unfold World.cell?
      rw [hg]
      simp
    have e2 : (cur.toList.take (n * 1))[j]? = cur[j]? := by
      rw [List.getElem?_take_of_lt (by omega)]
      simp
    rw [e1, ← e2, ht]
    simp [nlist, hj]
theorem add_off (b o j : Nat) : (⟨b, o, none⟩ : Addr).add j = ⟨b, o + j, none⟩ := by unfold Addr.add; split <;> simp_all
/-- The cells of a block made anew. -/
theorem cells_new {w : World} {vs : List Value} {t : TypeId} : ∀ j u, vs[j]? = some u → (w.alloc (.cells vs.toArray t)).cell? ((⟨w.heap.size, 0, none⟩ : Addr).add j) = some u := by
  intro j u hu
  rw [add_off, Nat.zero_add, World.cell?_alloc_new]
  simpa using hu
end Go.Proofs.Ytphkaambodecdaa
