/- Lists that are loaded, number by number: plain mathematics. -/
import Derived.Test.YtdlggnibgnflnaaDoorLay10
namespace Go.Proofs.YtdlggnibgnflnaaDoor
set_option linter.unusedVariables false

def row (ls : List (List Int)) (v : Nat) : List Nat := ((ls[v]?).getD []).map Int.toNat

/-- Behind v lists and k numbers of the next one. -/
def RR (ls : List (List Int)) (v k : Nat) : Nat → List Nat := fun u => if u < v then row ls u else if u = v then (row ls v).take k else []

/-- A number may come. -/
def okD (V E : Nat) (R : Nat → List Nat) (d : Int) : Prop := 0 ≤ d ∧ d < 2 * (E : Int) ∧ ¬ In V R d.toNat

theorem RR_zero (ls : List (List Int)) : RR ls 0 0 = fun _ => [] := by
  funext u
  unfold RR
  simp

theorem RR_self (ls : List (List Int)) (v k : Nat) : RR ls v k v = (row ls v).take k := by
  unfold RR
  simp

theorem RR_step {ls : List (List Int)} {v k : Nat} {l : List Int} {z : Int} (hl : ls[v]? = some l) (hz : l[k]? = some z) : RR ls v (k + 1) = upd (RR ls v k) v (RR ls v k v ++ [z.toNat]) := by
  have hr : (row ls v)[k]? = some z.toNat := by unfold row; rw [hl]; simp [hz]
  funext u
  unfold upd
  by_cases e : u = v
  · subst e
    rw [if_pos rfl, RR_self, RR_self, List.take_add_one, hr]
    rfl
  · rw [if_neg e]
    unfold RR
    simp [e]

theorem RR_next {ls : List (List Int)} {v : Nat} {l : List Int} (hl : ls[v]? = some l) : RR ls v l.length = RR ls (v + 1) 0 := by
  have hr : (row ls v).length = l.length := by unfold row; rw [hl]; simp
  funext u
  unfold RR
  by_cases h1 : u < v
  · rw [if_pos h1, if_pos (by omega)]
  · rw [if_neg h1]
    by_cases h2 : u = v
    · subst h2
      rw [if_pos rfl, if_pos (by omega), List.take_of_length_le (by omega)]
    · rw [if_neg h2, if_neg (by omega)]
      split <;> simp

/-- All numbers come. -/
def Ok (V E : Nat) (ls : List (List Int)) : Prop := ∀ v l k z, ls[v]? = some l → l[k]? = some z → okD V E (RR ls v k) z

/-- A dart behind the last one is one at the end. -/
theorem ins_last {l : List Nat} {b d : Nat} (hn : (l ++ [b]).Nodup) : ins (l ++ [b]) b d = l ++ [b] ++ [d] := by
  have hb : b ∉ l := fun h => by
    rw [List.nodup_append] at hn
    exact hn.2.2 b h b (by simp) rfl
  have := ins_split (B := []) (d := d) hb
  rw [this]
  simp

theorem Tn.append {V E : Nat} {R : Nat → List Nat} (h : Tn V E R) {v d : Nat} (hv : v < V) (hd : ¬ In V R d) (hl : d < 2 * E) : Tn V E (upd R v (R v ++ [d])) := by
  have := h.put (b := none) hv (fun y e => by cases e) hd hl
  exact this

end Go.Proofs.YtdlggnibgnflnaaDoor
