import Derived.Test.YtpegihfocnchnaaKe
import Derived.StillTailTactics
namespace Go.Proofs.Ytpegihfocnchnaa
open Go.RowKit

def rq0 (s : Nat → BitVec 32) (_ _ _ _ : Nat) : Nat → BitVec 32 := s
def rq1 (s : Nat → BitVec 32) (a b c d : Nat) : Nat → BitVec 32 := updW (rq0 s a b c d) a ((rq0 s a b c d) a + (rq0 s a b c d) b)
def rq2 (s : Nat → BitVec 32) (a b c d : Nat) : Nat → BitVec 32 := updW (rq1 s a b c d) d (((rq1 s a b c d) d ^^^ (rq1 s a b c d) a).rotateLeft 16)
def rq3 (s : Nat → BitVec 32) (a b c d : Nat) : Nat → BitVec 32 := updW (rq2 s a b c d) c ((rq2 s a b c d) c + (rq2 s a b c d) d)
def rq4 (s : Nat → BitVec 32) (a b c d : Nat) : Nat → BitVec 32 := updW (rq3 s a b c d) b (((rq3 s a b c d) b ^^^ (rq3 s a b c d) c).rotateLeft 12)
def rq5 (s : Nat → BitVec 32) (a b c d : Nat) : Nat → BitVec 32 := updW (rq4 s a b c d) a ((rq4 s a b c d) a + (rq4 s a b c d) b)
def rq6 (s : Nat → BitVec 32) (a b c d : Nat) : Nat → BitVec 32 := updW (rq5 s a b c d) d (((rq5 s a b c d) d ^^^ (rq5 s a b c d) a).rotateLeft 8)
def rq7 (s : Nat → BitVec 32) (a b c d : Nat) : Nat → BitVec 32 := updW (rq6 s a b c d) c ((rq6 s a b c d) c + (rq6 s a b c d) d)
def rq8 (s : Nat → BitVec 32) (a b c d : Nat) : Nat → BitVec 32 := updW (rq7 s a b c d) b (((rq7 s a b c d) b ^^^ (rq7 s a b c d) c).rotateLeft 7)

theorem rq_eq (s : Nat → BitVec 32) (a b c d : Nat) (hab : a ≠ b) (hac : a ≠ c) (had : a ≠ d) (hbc : b ≠ c) (hbd : b ≠ d) (hcd : c ≠ d) : rq8 s a b c d = qs s a b c d := by
  have h21 := hab.symm
  have h31 := hac.symm
  have h41 := had.symm
  have h32 := hbc.symm
  have h42 := hbd.symm
  have h43 := hcd.symm
  funext i
  simp only [rq8, rq7, rq6, rq5, rq4, rq3, rq2, rq1, rq0, qs, qr, updW]
  by_cases h1 : i = a
  · subst h1; simp [*]
  by_cases h2 : i = b
  · subst h2; simp [*]
  by_cases h3 : i = c
  · subst h3; simp [*]
  by_cases h4 : i = d
  · subst h4; simp [*]
  · simp [h1, h2, h3, h4]

/-- the box of the words, the result's cell, and the rest -/
structure RqAt (w : World) (B : Nat) (s : Nat → BitVec 32) (W : World) : Prop where
  s : St W B s
  r : W.rowIs (B + 1) 47 16 (fun _ => .int .u32 0)
  b : Below B w W
theorem RqAt.put {w : World} {B : Nat} {s : Nat → BitVec 32} {W : World} (h : RqAt w B s W) (i : Nat) (x : BitVec 32) : RqAt w B (updW s i x) (W.setCell ⟨B, i, none⟩ (v32 x)) :=
  ⟨St.put h.s i x, h.r.setOther (a := ⟨B, i, none⟩) (by simp only; omega) _, h.b.setCell (by simp only; omega) _⟩
theorem RqAt.drew {w : World} {B : Nat} {s : Nat → BitVec 32} {W : World} (h : RqAt w B s W) : RqAt w B s W.drew := ⟨h.s, h.r, h.b.drew⟩

end Go.Proofs.Ytpegihfocnchnaa
