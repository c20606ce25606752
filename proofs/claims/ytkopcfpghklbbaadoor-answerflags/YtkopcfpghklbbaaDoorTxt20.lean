/- An answer's words and text: plain mathematics. -/
import Derived.Test.YtkopcfpghklbbaaDoorAns20
import Derived.Lib.ItoaNum
import Derived.Lib.ItoaMem
import Derived.Lib.ItoaLen
namespace Go.Proofs.YtkopcfpghklbbaaDoor
set_option linter.unusedVariables false

/-- A handle, a dart as words. -/
def nmh (h : Nat × Nat) : List UInt8 := Lib.itoa (h.2 : Int) ++ (35 :: Lib.itoa (h.1 : Int))
def nmd (x : Dt) : List UInt8 := nmh (x.a, x.p) ++ (46 :: Lib.itoa x.s)
/-- Sixteen digits. -/
def hx (n : Nat) : UInt8 := if n < 10 then UInt8.ofNat (48 + n) else UInt8.ofNat (87 + n)
def hex1 (x : UInt8) : List UInt8 := [hx (x.toNat / 16), hx (x.toNat % 16)]
def yn (b : Bool) : List UInt8 := if b then [121, 101, 115] else [110, 111]
def wok : List UInt8 := [111, 107]
def wnone : List UInt8 := [110, 111, 110, 101]
def wempty : List UInt8 := [101, 109, 112, 116, 121]
def werror : List UInt8 := [101, 114, 114, 111, 114, 32]

/-- Words, a blank between. -/
def jw (ws : List (List UInt8)) : List UInt8 := (ws.flatMap (fun w => 32 :: w)).drop 1
/-- One more word behind what lies. -/
def pw (acc w : List UInt8) : List UInt8 := (if acc = [] then acc else acc ++ [32]) ++ w

theorem jw_nil : jw [] = [] := rfl
theorem jw_one (w : List UInt8) : jw [w] = w := by simp [jw]
theorem jw_ne {ws : List (List UInt8)} (hn : ∀ w, w ∈ ws → w ≠ []) (h : ws ≠ []) : jw ws ≠ [] := by
  cases ws with
  | nil => exact absurd rfl h
  | cons w ws =>
    have := hn w List.mem_cons_self
    simp [jw, this]
theorem jw_push {ws : List (List UInt8)} {w : List UInt8} (hn : ∀ w, w ∈ ws → w ≠ []) : pw (jw ws) w = jw (ws ++ [w]) := by
  unfold pw
  by_cases h : ws = []
  · subst h
    simp [jw]
  · rw [if_neg (jw_ne hn h)]
    unfold jw
    cases ws with
    | nil => exact absurd rfl h
    | cons v vs => simp [List.flatMap_append]

theorem dd_ne (n : Nat) : Lib.decDigits n ≠ [] := by
  intro h
  have := Lib.decDigits_length n
  rw [h] at this
  have h2 : Lib.nDigits n ≠ 0 := by
    rw [Lib.nDigits]
    split <;> omega
  simp at this
  omega
theorem itoa_ne (n : Int) : Lib.itoa n ≠ [] := by
  unfold Lib.itoa
  split
  · simp
  · exact dd_ne _
theorem nmh_ne (h : Nat × Nat) : nmh h ≠ [] := by simp [nmh]
theorem nmd_ne (h : Dt) : nmd h ≠ [] := by simp [nmd]
theorem yn_ne (b : Bool) : yn b ≠ [] := by cases b <;> simp [yn]

/-- The words of an answer without an error, but for data. -/
def wds (k : Int) (x : An) : List (List UInt8) :=
  x.hs.map nmh ++ ((if flg k then [yn x.is] else []) ++ ((if k = 9 then [Lib.itoa x.n] else []) ++ (x.ds.map nmd ++ ((if k = 11 then [Lib.itoa x.c0, Lib.itoa x.c1, Lib.itoa x.c2, Lib.itoa x.c3] else []) ++ (if k = 13 then [Lib.itoa x.sum] else [])))))
def nth20 (k : Int) : List UInt8 := if k = 10 then wnone else if k = 14 then wempty else wok
def txt20 (k : Int) (x : An) : List UInt8 :=
  if x.err ≠ 0 then werror ++ Lib.itoa x.err else if jw (wds k x) ++ x.d.flatMap hex1 = [] then nth20 k else jw (wds k x) ++ x.d.flatMap hex1

theorem wds_ne {k : Int} {x : An} : ∀ w, w ∈ wds k x → w ≠ [] := by
  intro w h
  unfold wds at h
  simp only [List.mem_append, List.mem_map] at h
  rcases h with ⟨y, _, rfl⟩ | h | h | ⟨y, _, rfl⟩ | h | h
  · exact nmh_ne y
  · split at h
    · simp at h; subst h; exact yn_ne _
    · simp at h
  · split at h
    · simp at h; subst h; exact itoa_ne _
    · simp at h
  · exact nmd_ne y
  · split at h
    · simp at h
      rcases h with rfl | rfl | rfl | rfl <;> exact itoa_ne _
    · simp at h
  · split at h
    · simp at h; subst h; exact itoa_ne _
    · simp at h

/-- What the document's text holds ahead of its switch, and behind it. -/
def rt0 (x : An) : List UInt8 := x.hs.flatMap (fun h => 32 :: nmh h) ++ x.ds.flatMap (fun d => 32 :: nmd d)
def rt1 (k : Int) (x : An) : List UInt8 :=
  if flg k then 32 :: yn x.is
  else if k = 9 then 32 :: Lib.itoa x.n
  else if k = 10 ∧ rt0 x = [] then 32 :: wnone
  else if k = 11 then rt0 x ++ [Lib.itoa x.c0, Lib.itoa x.c1, Lib.itoa x.c2, Lib.itoa x.c3].flatMap (fun w => 32 :: w)
  else if k = 13 then 32 :: Lib.itoa x.sum
  else if k = 14 ∧ x.d = [] then 32 :: wempty
  else if k = 14 then 32 :: x.d.flatMap hex1
  else rt0 x
def rtxt (k : Int) (x : An) : List UInt8 := if x.err ≠ 0 then werror ++ Lib.itoa x.err else if rt1 k x = [] then wok else (rt1 k x).drop 1

theorem rt0_nil {x : An} (h1 : x.hs = []) (h2 : x.ds = []) : rt0 x = [] := by simp [rt0, h1, h2]
theorem rt0_ds {x : An} (h1 : x.hs = []) : rt0 x = (x.ds.map nmd).flatMap (fun w => 32 :: w) := by simp [rt0, h1, List.flatMap_map]
theorem rt0_hs {x : An} (h1 : x.ds = []) : rt0 x = (x.hs.map nmh).flatMap (fun w => 32 :: w) := by simp [rt0, h1, List.flatMap_map]

theorem rtxt_is {k : Int} {x : An} (h : may20 k x) : rtxt k x = txt20 k x := by
  unfold rtxt txt20
  rcases h with ⟨he, _⟩ | ⟨he, h0, h1, h2, h3, h4, h5, h6, h7, h8, _⟩
  · rw [if_pos he, if_pos he]
  · have he' : ¬ x.err ≠ 0 := by simp [he]
    rw [if_neg he', if_neg he']
    have hz : hnd k = 0 → x.hs = [] := fun q => List.eq_nil_of_length_eq_zero (by omega)
    have hnd0 : ¬ (k = 1 ∨ k = 3) → ¬ k = 16 → hnd k = 0 := fun a b => by unfold hnd; rw [if_neg a, if_neg b]
    rw [flg_iff] at h2
    have zn : ¬ k = 9 → x.n = 0 := fun q => by omega
    have zd : ¬ (k = 10 ∨ k = 17) → x.ds = [] := fun q => by rcases h4 with g | g; exact g; exact absurd g q
    have zD : ¬ k = 14 → x.d = [] := fun q => by rcases h8 with g | g; exact g; exact absurd g q
    by_cases f : flg k = true
    · have g := (flg_iff k).1 f
      have e1 := hz (hnd0 (by omega) (by omega))
      have e2 := zd (by omega)
      have e3 := zD (by omega)
      have n9 : ¬ k = 9 := by omega
      have n11 : ¬ k = 11 := by omega
      have n13 : ¬ k = 13 := by omega
      simp [rt1, wds, f, e1, e2, e3, n9, n11, n13, jw_one, yn_ne]
    · have ff : flg k = false := by simpa using f
      have g : ¬ (k = 6 ∨ k = 7 ∨ k = 8 ∨ k = 12) := fun q => f ((flg_iff k).2 q)
      by_cases n9 : k = 9
      · have e1 := hz (hnd0 (by omega) (by omega))
        have e2 := zd (by omega)
        have e3 := zD (by omega)
        have n11 : ¬ k = 11 := by omega
        have n13 : ¬ k = 13 := by omega
        subst n9
        simp [rt1, wds, ff, e1, e2, e3, jw_one, itoa_ne]
      · by_cases n10 : k = 10
        · have e1 := hz (hnd0 (by omega) (by omega))
          have e3 := zD (by omega)
          subst n10
          have hr := rt0_ds (x := x) e1
          cases hd : x.ds with
          | nil => simp [rt1, wds, ff, e1, e3, hd, rt0, jw_nil, nth20]
          | cons y ys =>
            have hne : rt0 x ≠ [] := by rw [hr, hd]; simp
            have hj : jw (x.ds.map nmd) ≠ [] := jw_ne (fun w hw => by obtain ⟨z, _, rfl⟩ := List.mem_map.1 hw; exact nmd_ne z) (by simp [hd])
            have e4 : rt1 10 x = rt0 x := by simp [rt1, ff, hne]
            have e5 : jw (wds 10 x) ++ x.d.flatMap hex1 = jw (x.ds.map nmd) := by simp [wds, ff, e1, e3]
            rw [e4, e5, if_neg hne, if_neg hj, hr]
            rfl
        · by_cases n11 : k = 11
          · have e1 := hz (hnd0 (by omega) (by omega))
            have e2 := zd (by omega)
            have e3 := zD (by omega)
            subst n11
            have e0 := rt0_nil (x := x) e1 e2
            simp [rt1, wds, ff, e1, e2, e3, e0, jw]
          · by_cases n13 : k = 13
            · have e1 := hz (hnd0 (by omega) (by omega))
              have e2 := zd (by omega)
              have e3 := zD (by omega)
              subst n13
              simp [rt1, wds, ff, e1, e2, e3, jw_one, itoa_ne]
            · by_cases n14 : k = 14
              · have e1 := hz (hnd0 (by omega) (by omega))
                have e2 := zd (by omega)
                subst n14
                cases hd : x.d with
                | nil => simp [rt1, wds, ff, e1, e2, hd, jw_nil, nth20]
                | cons y ys => simp [rt1, wds, ff, e1, e2, hd, jw_nil, hex1]
              · have e3 := zD (by omega)
                have e4 : rt1 k x = rt0 x := by simp [rt1, ff, n9, n10, n11, n13, n14]
                have e5 : jw (wds k x) ++ x.d.flatMap hex1 = (rt0 x).drop 1 := by
                  by_cases hh : x.hs = []
                  · rw [rt0_ds hh]
                    simp [wds, ff, n9, n11, n13, hh, e3, jw]
                  · have e2 : x.ds = [] := zd (fun q => by
                      rcases q with q | q
                      · exact n10 q
                      · exact hh (hz (hnd0 (by omega) (by omega))))
                    rw [rt0_hs e2]
                    simp [wds, ff, n9, n11, n13, e2, e3, jw]
                rw [e4, e5]
                have e6 : (rt0 x).drop 1 = [] ↔ rt0 x = [] := by
                  by_cases hh : x.hs = []
                  · rw [rt0_ds hh]
                    cases x.ds with
                    | nil => simp
                    | cons y ys => simp [nmd_ne]
                  · have e2 : x.ds = [] := zd (fun q => by
                      rcases q with q | q
                      · exact n10 q
                      · exact hh (hz (hnd0 (by omega) (by omega))))
                    rw [rt0_hs e2]
                    cases x.hs with
                    | nil => simp
                    | cons y ys => simp [nmh_ne]
                by_cases q : rt0 x = []
                · rw [if_pos q, if_pos (e6.2 q)]
                  simp [nth20, n10, n14, wok]
                · rw [if_neg q, if_neg (fun r => q (e6.1 r))]

end Go.Proofs.YtkopcfpghklbbaaDoor
