/- The contracts of perigeeref04's at, Sum, Derived, Eval over this program. -/
import Derived.Test.YtlpjhmafplljaaaDoorGalRReg
import Derived.Test.YtlpjhmafplljaaaDoorGalFns
import Derived.RangeFuncBox
namespace Go.Proofs.YtlpjhmafplljaaaDoor
open Go.RowKit
set_option linter.unusedVariables false

def slen : Value → Nat
  | .slice _ n _ => n
  | _ => 0
theorem own_slen {w : World} {base e n : Nat} {v : Value} {xs : List Value} (h : w.ownsRow base e 1 v n xs) : slen v = n := by
  rcases h.2 with ⟨rfl, rfl⟩ | ⟨_, _, _, rfl, _⟩ <;> rfl
theorem own_block_ge {w : World} {base e size n g : Nat} {v : Value} {xs : List Value} (h : w.ownsRow base e size v n xs) (hg : v.ownBlock = some g) : base ≤ g := by
  rcases h.2 with ⟨rfl, _⟩ | ⟨g', c, _, rfl, hb, _⟩
  · cases hg
  · cases hg; exact hb
theorem cell_new_l (w : World) (v : Value) (t : TypeId) : (w.alloc (.cells #[v] t)).cell? ⟨w.heap.size, 0, none⟩ = some v ∧ (w.alloc (.cells #[v] t)).frozen? ⟨w.heap.size, 0, none⟩ = false := by
  constructor <;> go_simp
theorem cell_one {w : World} {v : Value} {t : TypeId} : ∀ j u, [v][j]? = some u → (w.alloc (.cells #[v] t)).cell? ((⟨w.heap.size, 0, none⟩ : Addr).add j) = some u := by
  intro j u hu
  have hj : j < 1 := by
    have := (List.getElem?_eq_some_iff.1 hu).1
    simpa using this
  obtain rfl : j = 0 := by omega
  have e : (⟨w.heap.size, 0, none⟩ : Addr).add 0 = ⟨w.heap.size, 0, none⟩ := by unfold Addr.add; split <;> simp_all
  rw [e]
  have := (cell_new_l w v t).1
  simp at hu
  subst hu
  exact this
/-- So many bytes as values. -/
def vals (f : Nat → BitVec 8) (n : Nat) : List Value := (List.range n).map (fun j => .int .u8 ((f j).toNat : Nat))
theorem vals_succ (f : Nat → BitVec 8) (n : Nat) : vals f (n + 1) = vals f n ++ [.int .u8 ((f n).toNat : Nat)] := by simp [vals, List.range_succ]
/-- A string made of a []byte that was appended to. -/
theorem own_back {w : World} {base : Nat} {v : Value} {n : Nat} {f : Nat → BitVec 8} (h : w.ownsRow base 5 1 v n (vals f n)) : (convert 33 9 v).run Tryd.prog w = .ok (.string ⟨(Gal.coefs f n).toArray⟩) w := by
  rcases h.2 with ⟨rfl, rfl⟩ | ⟨g, cap, cur, rfl, hb, hg, hnc, hm, hsz, ht⟩
  · rw [run_convert_bytes_string w 33 9 5 none 0 0 Tryd.underlying33 Tryd.underlying5 Tryd.underlying9]
    rfl
  · have hl := Gal.coefs_length f n
    have := run_convert_bytes_back (P := Tryd.prog) w 33 9 5 ⟨g, 0, none⟩ cap (Gal.coefs f n) Tryd.underlying33 Tryd.underlying5 Tryd.underlying9 (fun j hj => by
      have e : (⟨g, 0, none⟩ : Addr).add j = ⟨g, j, none⟩ := by unfold Addr.add; split <;> simp_all
      rw [hl] at hj
      have e1 : w.cell? ⟨g, j, none⟩ = cur[j]? := by
        unfold World.cell?
        rw [hg]
        simp
      have e2 : (cur.toList.take (n * 1))[j]? = cur[j]? := by
        rw [List.getElem?_take_of_lt (by omega)]
        simp
      rw [e, e1, ← e2, ht]
      simp [Gal.coefs, vals, hj])
    rwa [hl] at this
end Go.Proofs.YtlpjhmafplljaaaDoor
