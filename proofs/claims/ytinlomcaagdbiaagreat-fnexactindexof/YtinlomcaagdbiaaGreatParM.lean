import Derived.Test.YtinlomcaagdbiaaGreatPtG
import Derived.Deep.RegionHeld3
/- Whether a point lies in a ring, by the ways of the program and of the specification: the same, where it is on no edge. Mathematics. -/
namespace Go.Proofs.YtinlomcaagdbiaaGreat

def hitS (ax ay bx bz px py : Int) : Bool := ((decide (py < ay)) != (decide (py < bz))) && ((decide (ay < bz) && decide (0 < ar ax ay bx bz px py)) || (decide (bz < ay) && decide (ar ax ay bx bz px py < 0)))
def hitI (ax ay bx bz px py : Int) : Bool := (decide (ay < py) && (decide (py ≤ bz) && decide (0 < ar ax ay bx bz px py))) || (decide (bz < py) && (decide (py ≤ ay) && decide (ar ax ay bx bz px py < 0)))
def rgt (vx vy px py : Int) : Bool := decide (vy = py) && decide (px < vx)
theorem pos_mul_iff {a b : Int} (h : 0 < a) : 0 < a * b ↔ 0 < b := by
 constructor
 ·intro k
  rcases Int.lt_or_le 0 b with c | c
  ·exact c
  ·have := Int.mul_nonneg (Int.le_of_lt h) (show 0 ≤ -b by omega)
   rw [Int.mul_neg] at this
   omega
 ·exact Int.mul_pos h
theorem ar_at_end {ax ay bx bz px py : Int} (h : bz = py) : ar ax ay bx bz px py = (bz - ay) * (bx - px) := by subst h; unfold ar; grind
theorem ar_at_start {ax ay bx bz px py : Int} (h : ay = py) : ar ax ay bx bz px py = (bz - ay) * (ax - px) := by subst h; unfold ar; grind
theorem hit_parts {ax ay bx bz px py : Int} (hn : onB ax ay bx bz px py = false) : (hitS ax ay bx bz px py ^^ hitI ax ay bx bz px py) = (rgt ax ay px py ^^ rgt bx bz px py) := by
 have hon : ¬ ON ax ay bx bz px py := by
  intro h
  rw [onB_iff.2 h] at hn
  cases hn
 -- what the area tells where an end is at the point's height
 have eU : bz = py → ay < py → (0 < ar ax ay bx bz px py ↔ px < bx) := fun h k => by
  rw [ar_at_end h, pos_mul_iff (show 0 < bz - ay by omega)]
  omega
 have eD : bz = py → py < ay → (ar ax ay bx bz px py < 0 ↔ px < bx) := fun h k => by
  have e : ar ax ay bx bz px py = -((ay - bz) * (bx - px)) := by rw [ar_at_end h]; grind
  have q := pos_mul_iff (a := ay - bz) (b := bx - px) (by omega)
  rw [e]
  omega
 have sU : ay = py → py < bz → (0 < ar ax ay bx bz px py ↔ px < ax) := fun h k => by
  rw [ar_at_start h, pos_mul_iff (show 0 < bz - ay by omega)]
  omega
 have sD : ay = py → bz < py → (ar ax ay bx bz px py < 0 ↔ px < ax) := fun h k => by
  have e : ar ax ay bx bz px py = -((ay - bz) * (ax - px)) := by rw [ar_at_start h]; grind
  have q := pos_mul_iff (a := ay - bz) (b := ax - px) (by omega)
  rw [e]
  omega
 have al : ay = py → bz = py → (px < ax ↔ px < bx) := fun h k => by
  have hx : ¬ (ax - px) * (bx - px) ≤ 0 := by
   intro kk
   refine hon ⟨?_, kk, ?_⟩
   ·rw [ar_at_end k]
    have : bz - ay = 0 := by omega
    rw [this, Int.zero_mul]
   ·have : ay - py = 0 := by omega
    rw [this, Int.zero_mul]
    omega
  constructor
  ·intro c
   rcases Int.lt_or_le px bx with d | d
   ·exact d
   ·exfalso
    apply hx
    have := Int.mul_nonneg (show 0 ≤ ax - px by omega) (show 0 ≤ -(bx - px) by omega)
    rw [Int.mul_neg] at this
    omega
  ·intro c
   rcases Int.lt_or_le px ax with d | d
   ·exact d
   ·exfalso
    apply hx
    have := Int.mul_nonneg (show 0 ≤ -(ax - px) by omega) (show 0 ≤ bx - px by omega)
    rw [Int.neg_mul] at this
    omega
 clear hon hn
 unfold hitS hitI rgt
 generalize ar ax ay bx bz px py = A at *
 rcases Int.lt_trichotomy ay py with h1 | h1 | h1 <;> rcases Int.lt_trichotomy bz py with h2 | h2 | h2 <;> grind

def par (f : Nat → Bool) : Nat → Bool
 | 0 => false
 | k + 1 => par f k ^^ f k
theorem par_xor (f g : Nat → Bool) : ∀ k, par (fun i => f i ^^ g i) k = (par f k ^^ par g k)
 | 0 => rfl
 | k + 1 => by
  simp only [par]
  rw [par_xor f g k]
  cases par f k <;> cases par g k <;> cases f k <;> cases g k <;> rfl
theorem par_congr {f g : Nat → Bool} : ∀ k, (∀ i, i < k → f i = g i) → par f k = par g k
 | 0, _ => rfl
 | k + 1, h => by
  simp only [par]
  rw [par_congr k (fun i hi => h i (by omega)), h k (by omega)]
theorem par_tele (r : Nat → Bool) : ∀ k, par (fun i => r i ^^ r (i + 1)) k = (r 0 ^^ r k)
 | 0 => by simp [par]
 | k + 1 => by
  simp only [par]
  rw [par_tele r k]
  cases r 0 <;> cases r k <;> cases r (k + 1) <;> rfl
theorem par_ring (r : Nat → Bool) (n : Nat) (hn : 0 < n) : par (fun i => r i ^^ r ((i + 1) % n)) n = false := by
 obtain ⟨m, rfl⟩ : ∃ m, n = m + 1 := ⟨n - 1, by omega⟩
 simp only [par]
 rw [par_congr (g := fun i => r i ^^ r (i + 1)) m (fun i hi => by rw [Nat.mod_eq_of_lt (by omega)]), par_tele, Nat.mod_self]
 cases r 0 <;> cases r m <;> rfl
theorem in_same {X Y : Nat → Int} {n : Nat} {px py : Int} (h0 : 0 < n) (h : ∀ i, i < n → onB (X i) (Y i) (X ((i + 1) % n)) (Y ((i + 1) % n)) px py = false) :
  par (fun i => hitS (X i) (Y i) (X ((i + 1) % n)) (Y ((i + 1) % n)) px py) n = par (fun i => hitI (X i) (Y i) (X ((i + 1) % n)) (Y ((i + 1) % n)) px py) n := by
 have h1 := par_xor (fun i => hitS (X i) (Y i) (X ((i + 1) % n)) (Y ((i + 1) % n)) px py) (fun i => hitI (X i) (Y i) (X ((i + 1) % n)) (Y ((i + 1) % n)) px py) n
 rw [par_congr n (fun i hi => hit_parts (h i hi))] at h1
 have h3 : par (fun i => rgt (X i) (Y i) px py ^^ rgt (X ((i + 1) % n)) (Y ((i + 1) % n)) px py) n = false := par_ring (fun i => rgt (X i) (Y i) px py) n h0
 rw [h3] at h1
 revert h1
 generalize par _ _ = u
 generalize par _ _ = v
 cases u <;> cases v <;> simp
end Go.Proofs.YtinlomcaagdbiaaGreat

/- An operation of a region that draws its order, taken first. -/
namespace Go.Proofs.YtinlomcaagdbiaaGreat

theorem sA {l : List Value} {i : Nat} {a : Value} : l.toArray.setIfInBounds i a = (l.set i a).toArray := List.setIfInBounds_toArray ..
theorem sB {a b : Value} {l : List Value} : (a :: l).set 0 b = b :: l := rfl
theorem sC {a b : Value} {l : List Value} {n : Nat} : (a :: l).set (n + 1) b = a :: l.set n b := rfl
theorem takeQ {P : Program} {ops : Array Oper} {Q : Exit → Act → World → Prop} {md : Region.Mode} {S : World → Prop} {i : Nat} {oi : Oper} {v : Value} {fuel : Nat} {listed : Array Bool} {a : Act} {w : World} (hi : ops[i]? = some oi)
  (hf : (Region.noSelect ops && Region.free md ops listed i && (Region.ready md ops listed).contains i) = true)
  (hQ : ∀ c a w, Q (.panic c) (a.put oi.dst v) w → Q (.panic c) a w) (hw : Region.wanted oi (yielded ops a.tmps) = true)
  (hy : ∀ w, S w → (execOp a.eval oi).run P w = .ok (.value v) w) (hS : S w)
  (h : wpAnyH P md ops Q S fuel (listed.setIfInBounds i true) (a.put oi.dst v) w) : wpAnyH P md ops Q S (fuel + 1) listed a w := by
 simp only [Bool.and_eq_true] at hf
 exact wpAnyH_take hi hf.1.1 hf.1.2 hf.2 hQ (Or.inl ⟨hw, hy⟩) hS h
end Go.Proofs.YtinlomcaagdbiaaGreat
