/- The plain mathematics of quantities between bounds: no program in sight. -/
namespace Go.Proofs.YtdldokhiefeloaaDoor

def pickZ (c n : Int) : Int := (if c < 0 then -(c + 1) else c) % n
theorem pick_bd (c n : Int) (h : 0 < n) : 0 ≤ pickZ c n ∧ pickZ c n < n := ⟨Int.emod_nonneg _ (by omega), Int.emod_lt_of_pos _ h⟩

def kindZ (u : Int) : Int := if u = 1 then 1 else if u = 2 ∨ u = 3 then 2 else if u = 4 ∨ u = 5 then 3 else if u = 6 ∨ u = 7 then 4 else 0
theorem kindZ_out (u : Int) (h : u < 1 ∨ 7 < u) : kindZ u = 0 := by unfold kindZ; repeat' split <;> omega
theorem kindZ_zero (u : Int) : kindZ u = 0 ↔ u < 1 ∨ 7 < u := by unfold kindZ; repeat' split <;> omega

/-- valid, whatever the unit -/
def validB (lo hi u : Int) : Bool := (lo == 0 && hi == 0 && u == 0) || (kindZ u != 0 && decide (0 ≤ lo) && decide (lo ≤ hi) && decide (hi ≤ 999999))
/-- valid, and with a unit -/
def knownB (lo hi u : Int) : Bool := kindZ u != 0 && decide (0 ≤ lo) && decide (lo ≤ hi) && decide (hi ≤ 999999)
theorem knownB_iff (lo hi u : Int) : knownB lo hi u = true ↔ 1 ≤ u ∧ u ≤ 7 ∧ 0 ≤ lo ∧ lo ≤ hi ∧ hi ≤ 999999 := by
  have := kindZ_zero u
  simp [knownB]
  omega
theorem known_valid (lo hi u : Int) : (validB lo hi u && (u != 0)) = knownB lo hi u := by
  have := kindZ_zero u
  rw [Bool.eq_iff_iff]
  simp [validB, knownB]
  omega
theorem validB_iff (lo hi u : Int) : validB lo hi u = true ↔ (lo = 0 ∧ hi = 0 ∧ u = 0) ∨ knownB lo hi u = true := by
  simp [validB, knownB]
  omega

def ratesB (c e : Int) : Bool := decide (1 ≤ c) && decide (c ≤ 100000) && decide (1 ≤ e) && decide (e ≤ 100000)
theorem ratesB_iff (c e : Int) : ratesB c e = true ↔ 1 ≤ c ∧ c ≤ 100000 ∧ 1 ≤ e ∧ e ≤ 100000 := by simp [ratesB]; omega

/-- what a unit is worth in the first one of its kind -/
def worthN (u c _e : Int) : Int := if u = 7 then c else if u = 3 then 3048 else if u = 5 then 45359237 else 1
def worthD (u _c e : Int) : Int := if u = 7 then e else if u = 3 then 10000 else if u = 5 then 100000000 else 1

/-- an amount and an error -/
structure Res where
  lo : Int
  hi : Int
  u : Int
  e : Int

def bad : Res := ⟨0, 0, 0, 50⟩
def checkR (lo hi u : Int) : Res := if validB lo hi u then ⟨lo, hi, u, 0⟩ else bad

def convR (lo hi u to c e : Int) : Res :=
  if knownB lo hi u && ratesB c e && (kindZ to == kindZ u) then
    if u = to then checkR lo hi u
    else checkR (lo * (worthN u c e * worthD to c e) / (worthD u c e * worthN to c e)) ((hi * (worthN u c e * worthD to c e) + worthD u c e * worthN to c e - 1) / (worthD u c e * worthN to c e)) to
  else bad
def stepB (s : Int) : Bool := s == 1 || s == 10 || s == 100 || s == 1000 || s == 10000
def coarseR (lo hi u s : Int) : Res := if knownB lo hi u && stepB s then checkR (lo / s * s) ((hi + s - 1) / s * s) u else bad
def shareB (n d : Int) : Bool := decide (0 ≤ n) && decide (n ≤ 1000000) && decide (1 ≤ d) && decide (d ≤ 1000000)
def shareR (lo hi u n d : Int) : Res := if knownB lo hi u && shareB n d then checkR (lo * n / d) ((hi * n + d - 1) / d) u else bad
def addR (a b c x y z : Int) : Res := if knownB a b c && knownB x y z && (c == z) then checkR (a + x) (b + y) c else bad
def meetR (a b c x y z : Int) : Res := if knownB a b c && knownB x y z && (c == z) then checkR (max a x) (min b y) c else bad
def containsB (a b c x y z : Int) : Bool := validB a b c && validB x y z && (c == z) && decide (a ≤ x) && decide (y ≤ b)

end Go.Proofs.YtdldokhiefeloaaDoor
